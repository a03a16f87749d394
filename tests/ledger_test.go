package tests

import (
	"math"
	"math/big"
	"slices"
	"strconv"
	"strings"
	"sync"
	"testing"

	"loop.example/scrutineer/impl"
)

// fracsIn has the fractions of a text such as "1/2 0/2 -3/4"; they need not be
// valid.
func fracsIn(text string) []impl.Frac {
	var l []impl.Frac
	for _, word := range strings.Fields(text) {
		before, after, _ := strings.Cut(word, "/")
		num, errNum := strconv.Atoi(before)
		den, errDen := strconv.Atoi(after)
		if errNum != nil || errDen != nil {
			panic("not a fraction: " + word)
		}
		l = append(l, fracOf(num, den))
	}
	return l
}

func fracIn(text string) impl.Frac {
	return fracsIn(text)[0]
}

func ledgerWith(most impl.Frac, paid []impl.Frac) impl.Ledger {
	return impl.Ledger{Cap: most, Paid: paid}
}

func ledgerIn(most, paid string) impl.Ledger {
	return ledgerWith(fracIn(most), fracsIn(paid))
}

func sameLedger(l, m impl.Ledger) bool {
	return l.Cap == m.Cap && slices.Equal(l.Paid, m.Paid)
}

// copyOfLedger is a ledger with a slice of its own.
func copyOfLedger(l impl.Ledger) impl.Ledger {
	return ledgerWith(l.Cap, slices.Clone(l.Paid))
}

// withCharge is a ledger with one charge more, paid or not.
func withCharge(l impl.Ledger, f impl.Frac) impl.Ledger {
	return ledgerWith(l.Cap, slices.Concat(l.Paid, []impl.Frac{f}))
}

// someCharges has at most as many fractions as there are field elements.
func someCharges() []impl.Frac {
	return fracsIn("0/1 1/1 2/1 1/2 1/3 2/3 1/4 3/4 1/5 2/5 1/6 5/6 1/8 3/8 1/9 1/10 3/10 1/12 1/15 1/20 1/30 1/60 7/60 11/60 1/7 3/7 10/1 100/1 499/2 333/1 999/1")
}

// charges has drawn ones.
func (d *draw) charges(many int) []impl.Frac {
	all := someCharges()
	l := make([]impl.Frac, many)
	for i := range l {
		l[i] = all[d.element()]
	}
	return l
}

// budgets has the least and the greatest one, those next to a limit, and simple
// ones.
func budgets() []impl.Frac {
	return fracsIn("0/1 1/60 1/59 1/2 59/60 1/1 61/60 3/2 2/1 17/6 997/60 999/59 100/1 499/1 999/2 998/1 999/1")
}

// chargeLists has lists of no charge, of one charge again and again, and of drawn
// ones, which have up to one more than LedgerMax.
func chargeLists() [][]impl.Frac {
	lists := [][]impl.Frac{nil, {}}
	d := draw(104)
	for many := 1; many <= 9; many++ {
		for _, f := range fracsIn("0/1 1/60 1/8 1/2 2/3 1/1 7/4 111/1 999/1") {
			lists = append(lists, slices.Repeat([]impl.Frac{f}, many))
		}
		for range 20 {
			lists = append(lists, d.charges(many))
		}
	}
	return lists
}

// forAnyLedgers has ledgers of valid fractions, of which some are invalid.
func forAnyLedgers(check func(l impl.Ledger)) {
	for _, most := range budgets() {
		for _, paid := range chargeLists() {
			check(ledgerWith(most, slices.Clone(paid)))
		}
	}
}

func forLedgers(check func(l impl.Ledger)) {
	forAnyLedgers(func(l impl.Ledger) {
		if _, ok := spentOf(l); ok {
			check(l)
		}
	})
}

// spentOf is what LedgerSum is to return, as the document describes it.
func spentOf(l impl.Ledger) (impl.Frac, bool) {
	if !rightFrac(l.Cap) || len(l.Paid) > 8 {
		return impl.Frac{}, false
	}
	total := new(big.Rat)
	for _, f := range l.Paid {
		if !rightFrac(f) {
			return impl.Frac{}, false
		}
		total.Add(total, exact(f))
		if _, ok := validFrac(total); !ok {
			return impl.Frac{}, false
		}
	}
	if total.Cmp(exact(l.Cap)) > 0 {
		return impl.Frac{}, false
	}
	return validFrac(total)
}

// ledgerAfter is what LedgerPay is to return.
func ledgerAfter(l impl.Ledger, f impl.Frac) (impl.Ledger, bool) {
	if _, ok := spentOf(l); !ok || !rightFrac(f) {
		return impl.Ledger{}, false
	}
	if _, ok := spentOf(withCharge(l, f)); !ok {
		return l, false
	}
	return withCharge(l, f), true
}

// spends checks a valid ledger.
func spends(t *testing.T, l impl.Ledger, want impl.Frac) {
	t.Helper()
	if !impl.LedgerOk(l) {
		t.Errorf("LedgerOk(%v) is false", l)
	}
	if got, ok := impl.LedgerSum(l); !ok || got != want {
		t.Errorf("LedgerSum(%v) is %v, %t, not %v", l, got, ok, want)
	}
}

// isNoLedger checks every function of an invalid ledger.
func isNoLedger(t *testing.T, l impl.Ledger) {
	t.Helper()
	if impl.LedgerOk(l) {
		t.Errorf("LedgerOk(%v) is true", l)
	}
	if got, ok := impl.LedgerSum(l); ok || got != (impl.Frac{}) {
		t.Errorf("LedgerSum(%v) is %v, %t", l, got, ok)
	}
	for _, f := range fracsIn("0/1 1/60 1/1 999/1 0/2 1/0 0/0 -1/1") {
		paysNothing(t, l, f)
	}
	paysNothing(t, l, l.Cap)
}

func ledgerIsRight(t *testing.T, l impl.Ledger) {
	t.Helper()
	if want, ok := spentOf(l); ok {
		spends(t, l, want)
	} else {
		isNoLedger(t, l)
	}
}

// payIs checks a call that succeeds if and only if may is true.
func payIs(t *testing.T, l impl.Ledger, f impl.Frac, want impl.Ledger, may bool) {
	t.Helper()
	before := copyOfLedger(l)
	if got, ok := impl.LedgerPay(l, f); ok != may || !sameLedger(got, want) || !sameLedger(l, before) {
		t.Errorf("LedgerPay(%v, %v) is %v, %t, not %v, %t", before, f, got, ok, want, may)
	}
	if can := impl.LedgerCan(l, f); can != may {
		t.Errorf("LedgerCan(%v, %v) is %t", l, f, can)
	}
}

// pays is the ledger after a charge that is possible.
func pays(t *testing.T, l impl.Ledger, f impl.Frac) impl.Ledger {
	t.Helper()
	payIs(t, l, f, withCharge(l, f), true)
	got, _ := impl.LedgerPay(l, f)
	return got
}

// refuses checks a valid charge on a valid ledger that is just not possible.
func refuses(t *testing.T, l impl.Ledger, f impl.Frac) {
	t.Helper()
	payIs(t, l, f, copyOfLedger(l), false)
}

// paysNothing checks a call in which the ledger or the charge is invalid.
func paysNothing(t *testing.T, l impl.Ledger, f impl.Frac) {
	t.Helper()
	payIs(t, l, f, impl.Ledger{}, false)
}

// payingIsRight has the ledger after the charge and whether that is possible.
func payingIsRight(t *testing.T, l impl.Ledger, f impl.Frac) (impl.Ledger, bool) {
	t.Helper()
	want, may := ledgerAfter(l, f)
	payIs(t, l, f, want, may)
	return want, may
}

// Chapter 32
func TestLedgerMaxIsThatOfTheDocument(t *testing.T) {
	if impl.LedgerMax != 8 {
		t.Errorf("LedgerMax is %d", impl.LedgerMax)
	}
}

// Chapter 32: this compiles only if the fields are those of the document.
func TestLedgerHasTheFieldsOfTheDocument(t *testing.T) {
	fields := struct {
		Cap  impl.Frac
		Paid []impl.Frac
	}(ledgerIn("3/4", "1/2"))
	if fields.Cap != fracOf(3, 4) || !slices.Equal(fields.Paid, fracsIn("1/2")) {
		t.Errorf("the fields are %v", fields)
	}
}

// P107: calculated by hand.
func TestLedgerSumOfExamples(t *testing.T) {
	for _, c := range [][3]string{
		{"1/1", "", "0/1"},
		{"0/1", "", "0/1"},
		{"999/1", "", "0/1"},
		{"1/1", "1/2", "1/2"},
		{"1/1", "1/2 1/3", "5/6"},
		{"1/1", "1/2 1/3 1/6", "1/1"},
		{"1/1", "1/8 1/8 1/8 1/8 1/8 1/8 1/8 1/8", "1/1"},
		{"2/1", "3/4 3/4", "3/2"},
		{"2/1", "1/4 1/4 1/4", "3/4"},
		{"3/4", "0/1 3/4 0/1", "3/4"},
		{"61/60", "1/60 1/1", "61/60"},
		{"999/1", "998/1 1/1", "999/1"},
		{"999/59", "997/59 1/59 1/59", "999/59"},
		{"997/60", "991/60 1/10", "997/60"},
		{"100/1", "997/60 991/60", "497/15"},
		{"0/1", "0/1 0/1 0/1", "0/1"},
		{"7/2", "1/1 1/2 1/3 1/4 1/5 1/6 1/10 1/20", "13/5"},
	} {
		spends(t, ledgerIn(c[0], c[1]), fracIn(c[2]))
	}
}

// Chapter 32: each for one reason.
func TestInvalidLedgers(t *testing.T) {
	for _, c := range [][2]string{
		{"1/1", "1/2 1/2 1/60"}, {"1/2", "2/3"}, {"1/2", "31/60"}, {"59/60", "1/1"}, {"998/1", "999/1"}, {"997/60", "17/1"},
		{"0/1", "1/60"}, {"0/1", "0/1 0/1 1/60"}, {"1/1", "1/8 1/8 1/8 1/8 1/8 1/8 1/8 1/4"},
		{"1/1", "1/9 1/9 1/9 1/9 1/9 1/9 1/9 1/9 1/9"}, {"999/1", "0/1 0/1 0/1 0/1 0/1 0/1 0/1 0/1 0/1"},
		{"999/1", "500/1 1/2"}, {"999/1", "999/1 1/1"}, {"1/1", "1/7 1/9"}, {"1/1", "1/8 1/9"},
		{"2/2", ""}, {"0/2", ""}, {"1/0", ""}, {"0/0", ""}, {"-1/1", ""}, {"1/-1", ""}, {"-1/-1", ""}, {"1000/1", ""}, {"1/61", ""}, {"6/8", "1/2"},
		{"1/1", "2/4"}, {"1/1", "0/2"}, {"1/1", "0/0"}, {"1/1", "1/0"}, {"1/1", "-1/2"}, {"1/1", "1/-2"}, {"1/1", "-1/-2"}, {"1/1", "1/61"}, {"999/1", "1000/1"},
		{"1/1", "1/2 -1/2"}, {"1/1", "3/2 -1/2"}, {"1/1", "1/2 2/4"}, {"1/1", "0/2 1/2"},
	} {
		isNoLedger(t, ledgerIn(c[0], c[1]))
	}
}

// Chapter 32
func TestTheZeroLedgerIsInvalid(t *testing.T) {
	isNoLedger(t, impl.Ledger{})
	isNoLedger(t, impl.Ledger{Paid: fracsIn("0/1")})
	isNoLedger(t, impl.Ledger{Paid: make([]impl.Frac, 3)})
}

// P104, P105, P106: by hand, with failures between the charges.
func TestLedgerPayOfExamples(t *testing.T) {
	l := ledgerIn("2/1", "")
	l = pays(t, l, fracIn("3/4"))
	refuses(t, l, fracIn("4/3"))
	l = pays(t, l, fracIn("3/4"))
	spends(t, l, fracIn("3/2"))
	refuses(t, l, fracIn("3/4"))
	paysNothing(t, l, fracIn("2/4"))
	refuses(t, l, fracIn("31/60"))
	l = pays(t, l, fracIn("0/1"))
	l = pays(t, l, fracIn("1/2"))
	spends(t, l, fracIn("2/1"))
	refuses(t, l, fracIn("1/60"))
	l = pays(t, l, fracIn("0/1"))
	if !sameLedger(l, ledgerIn("2/1", "3/4 3/4 0/1 1/2 0/1")) {
		t.Errorf("the ledger becomes %v", l)
	}
}

// P104, P105, P106, P107: of every sort, against another arithmetic.
func TestLedgerFunctionsOfManyLedgers(t *testing.T) {
	valid, invalid, paid, refused := 0, 0, 0, 0
	forAnyLedgers(func(l impl.Ledger) {
		ledgerIsRight(t, l)
		if _, ok := spentOf(l); !ok {
			invalid++
			return
		}
		valid++
		for _, f := range append(edgeFracs(), someCharges()...) {
			got, ok := payingIsRight(t, l, f)
			ledgerIsRight(t, got)
			if ok {
				paid++
			} else {
				refused++
			}
		}
	})
	if min(valid, invalid) < 700 || min(paid, refused) < 10000 {
		t.Errorf("%d ledgers are valid, %d are not, %d charges are paid, %d are not", valid, invalid, paid, refused)
	}
}

// P104, P107: all ledgers of up to three charges out of some, and each of these
// as the next charge.
func TestLedgerFunctionsOfAllShortLedgers(t *testing.T) {
	all := fracsIn("0/1 1/2 1/3 3/8 1/9 7/60 1/1 500/1")
	places := []int{0, 1, 2, 3, 4, 5, 6, 7}
	for _, most := range fracsIn("0/1 1/2 5/6 59/60 1/1 3/2 501/1 999/1") {
		for many := range 4 {
			forTuples(many, places, func(chosen []int) {
				l := ledgerWith(most, nil)
				for _, i := range chosen {
					l.Paid = append(l.Paid, all[i])
				}
				ledgerIsRight(t, l)
				for _, f := range all {
					got, _ := payingIsRight(t, l, f)
					ledgerIsRight(t, got)
				}
			})
		}
	}
}

// P105, P107: what was paid is what can be told, at most the budget.
func TestLedgerSumAfterLedgerPay(t *testing.T) {
	paid := 0
	forLedgers(func(l impl.Ledger) {
		before, ok := impl.LedgerSum(l)
		if !ok || impl.FracCmp(before, l.Cap) > 0 {
			t.Fatalf("LedgerSum(%v) is %v, %t", l, before, ok)
		}
		for _, f := range someCharges() {
			after, ok := impl.LedgerPay(l, f)
			if !ok {
				continue
			}
			paid++
			want, may := impl.FracSum(before, f)
			got, ok := impl.LedgerSum(after)
			if !ok || !may || got != want || impl.FracCmp(got, after.Cap) > 0 || after.Cap != l.Cap {
				t.Errorf("LedgerSum(%v) is %v, %t, not %v, %t", after, got, ok, want, may)
			}
		}
	})
	if paid < 5000 {
		t.Errorf("only %d charges are paid", paid)
	}
}

// P107: of each budget.
func TestLedgerWithoutCharges(t *testing.T) {
	for _, most := range allFracs() {
		spends(t, ledgerWith(most, nil), fracOf(0, 1))
		spends(t, ledgerWith(most, []impl.Frac{}), fracOf(0, 1))
		paid, ok := impl.LedgerPay(ledgerWith(most, nil), most)
		if !ok || !sameLedger(paid, ledgerWith(most, []impl.Frac{most})) {
			t.Errorf("LedgerPay of %v with a budget of as much is %v, %t", most, paid, ok)
		}
	}
}

// P106, P107: one charge next to the budget, for each fraction.
func TestOneChargeAroundTheBudget(t *testing.T) {
	all := sortedFracs()
	for i, f := range all {
		charged := []impl.Frac{f}
		spends(t, ledgerWith(f, charged), f)
		empty := ledgerWith(f, nil)
		pays(t, empty, f)
		if i > 0 {
			isNoLedger(t, ledgerWith(all[i-1], charged))
			pays(t, empty, all[i-1])
		}
		if i+1 < len(all) {
			spends(t, ledgerWith(all[i+1], charged), f)
			refuses(t, empty, all[i+1])
		}
	}
}

// P106, P107: several charges whose total is just the budget, or next to it.
func TestTotalsAroundTheBudget(t *testing.T) {
	all := sortedFracs()
	checked := 0
	for _, paid := range chargeLists() {
		l := ledgerWith(fracIn("999/1"), paid)
		total, ok := spentOf(l)
		if !ok || len(paid) == 0 {
			continue
		}
		checked++
		before, f := paid[:len(paid)-1], paid[len(paid)-1]
		i := slices.Index(all, total)
		spends(t, ledgerWith(total, paid), total)
		pays(t, ledgerWith(total, before), f)
		if i+1 < len(all) {
			spends(t, ledgerWith(all[i+1], paid), total)
			pays(t, ledgerWith(all[i+1], before), f)
		}
		if i > 0 {
			isNoLedger(t, ledgerWith(all[i-1], paid))
			payingIsRight(t, ledgerWith(all[i-1], before), f)
		}
	}
	if checked < 50 {
		t.Errorf("only %d lists have a total", checked)
	}
}

// P106: the charge for which just as much is left, and those next to it.
func TestTheLastChargeAroundTheBudget(t *testing.T) {
	for _, c := range [][4]string{
		{"1/1", "1/2 1/4", "1/4", "4/15"}, {"1/1", "1/2", "1/2", "31/60"}, {"1/1", "", "1/1", "61/60"}, {"1/60", "", "1/60", "1/59"},
		{"59/60", "29/60", "1/2", "31/60"}, {"999/1", "998/1", "1/1", "2/1"}, {"999/59", "998/59", "1/59", "2/59"},
		{"998/1", "1/1 1/1 1/1 1/1 1/1 1/1 1/1", "991/1", "992/1"}, {"999/2", "1/2 1/2", "997/2", "499/1"}, {"997/60", "1/60", "83/5", "997/60"},
		{"7/60", "1/60 1/60 1/60 1/60 1/60 1/60 0/1", "1/60", "1/30"}, {"0/1", "", "0/1", "1/60"}, {"0/1", "0/1 0/1 0/1", "0/1", "1/60"},
	} {
		l := ledgerIn(c[0], c[1])
		spends(t, pays(t, l, fracIn(c[2])), fracIn(c[0]))
		refuses(t, l, fracIn(c[3]))
	}
}

// P109, P106: with a budget of 0.
func TestLedgerWithABudgetOfZero(t *testing.T) {
	zero := fracOf(0, 1)
	l := ledgerWith(zero, nil)
	for many := range 9 {
		spends(t, l, zero)
		for _, f := range allFracs() {
			if f != zero && (many == 0 || f.Num < 3) {
				refuses(t, l, f)
			}
		}
		if many < 8 {
			l = pays(t, l, zero)
		}
	}
	refuses(t, l, zero)
	isNoLedger(t, withCharge(l, zero))
}

// P109: one charge that is not 0, at each place.
func TestLedgerWithABudgetOfZeroAndAnotherCharge(t *testing.T) {
	zero := fracOf(0, 1)
	for many := 1; many <= 8; many++ {
		for place := range many {
			for _, f := range append(edgeFracs(), someCharges()...) {
				paid := slices.Repeat([]impl.Frac{zero}, many)
				paid[place] = f
				if f == zero {
					spends(t, ledgerWith(zero, paid), zero)
				} else {
					isNoLedger(t, ledgerWith(zero, paid))
				}
			}
			for _, other := range fracsIn("0/2 0/60 0/0 0/-1 0/61") {
				paid := slices.Repeat([]impl.Frac{zero}, many)
				paid[place] = other
				isNoLedger(t, ledgerWith(zero, paid))
			}
		}
	}
}

// P108: with space and without.
func TestAChargeOfZero(t *testing.T) {
	zero := fracOf(0, 1)
	with, without := 0, 0
	forLedgers(func(l impl.Ledger) {
		if len(l.Paid) == 8 {
			without++
			refuses(t, l, zero)
			return
		}
		with++
		before, _ := spentOf(l)
		after := pays(t, l, zero)
		spends(t, after, before)
	})
	if with < 500 || without < 20 {
		t.Errorf("%d ledgers have space, and %d have none", with, without)
	}
}

// P106: LedgerMax charges and the numbers of charges next to that.
func TestLedgersOfAboutLedgerMaxCharges(t *testing.T) {
	for _, f := range fracsIn("0/1 1/60 1/8 1/9 1/2 1/1 110/1") {
		for _, most := range []impl.Frac{fracIn("999/1"), fracOf(990, 1)} {
			seven := ledgerWith(most, slices.Repeat([]impl.Frac{f}, 7))
			eight := ledgerWith(most, slices.Repeat([]impl.Frac{f}, 8))
			nine := ledgerWith(most, slices.Repeat([]impl.Frac{f}, 9))
			total, _ := spentOf(eight)
			spends(t, eight, total)
			if !sameLedger(pays(t, seven, f), eight) {
				t.Errorf("%v does not become %v", seven, eight)
			}
			for _, g := range append(edgeFracs(), someCharges()...) {
				refuses(t, eight, g)
			}
			isNoLedger(t, nine)
		}
	}
}

// P106: each charge until there is no space.
func TestLedgerPayUntilTheLedgerIsFull(t *testing.T) {
	charged := fracsIn("1/2 0/1 1/3 1/60 2/1 0/1 7/60 1/5")
	for _, most := range fracsIn("19/6 4/1 999/1") {
		l := ledgerWith(most, nil)
		for i, f := range charged {
			paysNothing(t, l, fracOf(0, 2))
			l = pays(t, l, f)
			if !slices.Equal(l.Paid, charged[:i+1]) {
				t.Fatalf("the charges are %v", l.Paid)
			}
			ledgerIsRight(t, l)
		}
		spends(t, l, fracIn("19/6"))
		for _, f := range someCharges() {
			refuses(t, l, f)
		}
	}
}

// Chapter 32: the partial sums are not all fractions, so the order counts.
func TestTheOrderOfChargesCounts(t *testing.T) {
	for _, c := range [][4]string{
		{"999/1", "1/8 3/8 1/9", "1/8 1/9 3/8", "11/18"},
		{"999/1", "1/2 1/2 500/1", "500/1 1/2 1/2", "501/1"},
		{"999/1", "1/3 2/3 333/1 333/1", "333/1 333/1 1/3 2/3", "667/1"},
		{"1/1", "1/7 6/7", "6/7 1/7", "1/1"},
		{"2/1", "1/7 6/7 1/9", "1/9 1/7 6/7", "10/9"},
		{"2/1", "0/1 1/7 0/1 6/7 0/1 1/9 1/9", "1/7 1/9 0/1 1/9 6/7 0/1 0/1", "11/9"},
		{"999/1", "1/60 59/60 1/1 1/1 1/1 1/1 1/1 25/1", "25/1 1/1 1/1 1/1 1/1 1/1 59/60 1/60", "31/1"},
	} {
		spends(t, ledgerIn(c[0], c[1]), fracIn(c[3]))
		ledgerIsRight(t, ledgerIn(c[0], c[2]))
	}
	isNoLedger(t, ledgerIn("999/1", "1/8 1/9 3/8"))
	isNoLedger(t, ledgerIn("999/1", "500/1 1/2 1/2"))
	isNoLedger(t, ledgerIn("999/1", "333/1 333/1 1/3 2/3"))
	isNoLedger(t, ledgerIn("2/1", "1/9 1/7 6/7"))
	isNoLedger(t, ledgerIn("999/1", "25/1 1/1 1/1 1/1 1/1 1/1 59/60 1/60"))
	refuses(t, ledgerIn("999/1", "1/8"), fracIn("1/9"))
	spends(t, pays(t, ledgerIn("999/1", "1/8 3/8"), fracIn("1/9")), fracIn("11/18"))
	refuses(t, ledgerIn("999/1", "500/1"), fracIn("1/2"))
	spends(t, pays(t, ledgerIn("999/1", "1/2 1/2"), fracIn("500/1")), fracIn("501/1"))
}

// Chapter 32: three charges in each order.
func TestChargesInEveryOrder(t *testing.T) {
	all := someCharges()
	differ := 0
	for i, f := range all {
		for j, g := range all[:i] {
			for _, h := range all[:j] {
				valid := 0
				for _, paid := range [][]impl.Frac{{f, g, h}, {f, h, g}, {g, f, h}, {g, h, f}, {h, f, g}, {h, g, f}} {
					l := ledgerWith(fracIn("999/1"), paid)
					ledgerIsRight(t, l)
					if impl.LedgerOk(l) {
						valid++
					}
				}
				if 0 < valid && valid < 6 {
					differ++
				}
			}
		}
	}
	if differ < 100 {
		t.Errorf("only %d lists are valid in some orders and invalid in others", differ)
	}
}

// Chapter 32, P106: a sum beyond a limit of fractions, though not beyond the
// budget. The first sum is the first charge, so the second charge is the first
// one that can be too much.
func TestASumBeyondALimitAtEachPlace(t *testing.T) {
	for _, c := range [][2]string{{"500/1", "1/2"}, {"999/1", "1/60"}, {"999/59", "1/59"}, {"1/8", "1/9"}, {"1/60", "1/59"}, {"333/1", "2/7"}, {"999/2", "1/3"}} {
		first, second := fracIn(c[0]), fracIn(c[1])
		for many := 2; many <= 8; many++ {
			for place := 1; place < many; place++ {
				paid := slices.Repeat(fracsIn("0/1"), many)
				paid[place-1], paid[place] = first, second
				isNoLedger(t, ledgerWith(fracIn("999/1"), paid))
				l := ledgerWith(fracIn("999/1"), paid[:place])
				spends(t, l, first)
				refuses(t, l, second)
				paid[place-1], paid[place] = second, first
				isNoLedger(t, ledgerWith(fracIn("999/1"), paid))
			}
		}
	}
}

// P104
func TestLedgerPaySucceedsIfAndOnlyIfLedgerCan(t *testing.T) {
	can, cannot := 0, 0
	forAnyLedgers(func(l impl.Ledger) {
		for _, f := range append(someCharges(), fracsIn("0/2 1/0 -1/2 1000/1 1/61 2/4")...) {
			_, ok := impl.LedgerPay(l, f)
			if impl.LedgerCan(l, f) != ok {
				t.Errorf("LedgerCan(%v, %v) is %t", l, f, !ok)
			}
			if ok {
				can++
			} else {
				cannot++
			}
		}
	})
	if min(can, cannot) < 5000 {
		t.Errorf("%d charges are possible, and %d are not", can, cannot)
	}
}

// P108: also of charges that are not much smaller.
func TestASmallerChargeIsPossible(t *testing.T) {
	smaller := 0
	forLedgers(func(l impl.Ledger) {
		total, _ := spentOf(l)
		for _, f := range someCharges() {
			if !impl.LedgerCan(l, f) {
				continue
			}
			for _, g := range append(edgeFracs(), someCharges()...) {
				_, within := validFrac(new(big.Rat).Add(exact(total), exact(g)))
				if within && exact(g).Cmp(exact(f)) < 0 {
					smaller++
					pays(t, l, g)
				}
			}
		}
	})
	if smaller < 10000 {
		t.Errorf("only %d charges are smaller", smaller)
	}
}

// P111
func TestAChargeIsPossibleWithALargerBudget(t *testing.T) {
	larger := 0
	forLedgers(func(l impl.Ledger) {
		for _, f := range someCharges() {
			if !impl.LedgerCan(l, f) {
				continue
			}
			for _, most := range append(budgets(), edgeFracs()...) {
				if exact(most).Cmp(exact(l.Cap)) > 0 {
					larger++
					pays(t, ledgerWith(most, l.Paid), f)
				}
			}
		}
	})
	if larger < 10000 {
		t.Errorf("only %d budgets are larger", larger)
	}
}

// P109: also without more charges than the last one.
func TestALedgerStaysValidWithoutItsLastCharges(t *testing.T) {
	with := 0
	forLedgers(func(l impl.Ledger) {
		for many := range l.Paid {
			with++
			shorter := ledgerWith(l.Cap, l.Paid[:many])
			total, _ := spentOf(shorter)
			spends(t, shorter, total)
			pays(t, shorter, l.Paid[many])
		}
	})
	if with < 1000 {
		t.Errorf("only %d ledgers are shorter", with)
	}
}

// P110: of two charges of any sort, which may be possible in one order only.
func TestTwoChargesInEitherOrder(t *testing.T) {
	both, one := 0, 0
	forLedgers(func(l impl.Ledger) {
		for _, f := range someCharges() {
			first, okFirst := impl.LedgerPay(l, f)
			for _, g := range someCharges() {
				left, okLeft := impl.LedgerPay(first, g)
				second, okSecond := impl.LedgerPay(l, g)
				right, okRight := impl.LedgerPay(second, f)
				if !okFirst || !okLeft || !okSecond || !okRight {
					if okFirst && okLeft || okSecond && okRight {
						one++
					}
					continue
				}
				both++
				leftTotal, okLeft := impl.LedgerSum(left)
				rightTotal, okRight := impl.LedgerSum(right)
				if !okLeft || !okRight || leftTotal != rightTotal || !slices.Equal(right.Paid, slices.Concat(l.Paid, []impl.Frac{g, f})) {
					t.Errorf("%v becomes %v or %v", l, left, right)
				}
			}
		}
	})
	if both < 10000 || one < 100 {
		t.Errorf("%d pairs are possible in both orders, and %d in one", both, one)
	}
}

// P110: by hand.
func TestTwoChargesOfExamples(t *testing.T) {
	l := ledgerIn("1/1", "1/6")
	left := pays(t, pays(t, l, fracIn("1/2")), fracIn("1/3"))
	right := pays(t, pays(t, l, fracIn("1/3")), fracIn("1/2"))
	spends(t, left, fracIn("1/1"))
	spends(t, right, fracIn("1/1"))
	if !sameLedger(left, ledgerIn("1/1", "1/6 1/2 1/3")) || !sameLedger(right, ledgerIn("1/1", "1/6 1/3 1/2")) {
		t.Errorf("%v becomes %v or %v", l, left, right)
	}
	l = ledgerIn("2/1", "1/7")
	spends(t, pays(t, pays(t, l, fracIn("6/7")), fracIn("1/9")), fracIn("10/9"))
	refuses(t, l, fracIn("1/9"))
}

// invalidFracs has all sorts, and those that are equal to a valid one.
func invalidFracs() []impl.Frac {
	return append(noFracs(), fracsIn("2/4 3/9 10/20 30/60 500/250 -1/-2 -2/-2 1/-60 -999/1 0/7 0/-1 1000/1 1/61 998/998")...)
}

// Chapter 32
func TestLedgersWithAnInvalidBudget(t *testing.T) {
	for _, most := range invalidFracs() {
		for _, paid := range [][]impl.Frac{nil, {}, fracsIn("0/1"), fracsIn("1/60"), fracsIn("0/1 0/1 0/1 0/1 0/1 0/1 0/1 0/1"), fracsIn("999/1"), fracsIn("1/8 1/9"), fracsIn("0/2"), {most}} {
			isNoLedger(t, ledgerWith(most, paid))
		}
	}
}

// P100, P111: budgets that become invalid, also larger ones.
func TestLedgersWhoseBudgetBecomesInvalid(t *testing.T) {
	for i, most := range allFracs() {
		for _, bad := range []impl.Frac{fracOf(2*most.Num, 2*most.Den), fracOf(-1-most.Num, most.Den), fracOf(most.Num, -most.Den)} {
			l := ledgerWith(bad, nil)
			if impl.LedgerOk(l) {
				t.Errorf("LedgerOk(%v) is true", l)
			}
			if i%97 == 0 {
				isNoLedger(t, l)
				isNoLedger(t, withCharge(l, fracOf(0, 1)))
			}
		}
	}
}

// Chapter 32: an invalid charge among valid ones, also where all after it are.
func TestLedgersWithAnInvalidChargeAtEachPlace(t *testing.T) {
	for _, bad := range invalidFracs() {
		for _, many := range []int{1, 2, 5, 7, 8, 9} {
			for place := range many {
				for _, f := range fracsIn("0/1 1/8") {
					paid := slices.Repeat([]impl.Frac{f}, many)
					paid[place] = bad
					isNoLedger(t, ledgerWith(fracIn("999/1"), paid))
				}
			}
		}
		isNoLedger(t, ledgerWith(fracIn("1/1"), slices.Repeat([]impl.Frac{bad}, 3)))
	}
}

// Chapter 32: also where no charge at all is possible.
func TestLedgerPayOfAnInvalidFraction(t *testing.T) {
	for _, bad := range invalidFracs() {
		for _, l := range []impl.Ledger{
			ledgerIn("0/1", ""), ledgerIn("0/1", "0/1"), ledgerIn("1/1", ""), ledgerIn("999/1", ""), ledgerIn("999/1", "999/1"), ledgerIn("1/1", "1/2 1/2"),
			ledgerIn("1/1", "1/2"), ledgerIn("999/1", "1/8"), ledgerIn("1/1", "1/9 1/9 1/9 1/9 1/9 1/9 1/9"),
			ledgerIn("1/1", "1/9 1/9 1/9 1/9 1/9 1/9 1/9 1/9"), ledgerIn("0/1", "0/1 0/1 0/1 0/1 0/1 0/1 0/1 0/1"),
		} {
			total, _ := spentOf(l)
			spends(t, l, total)
			paysNothing(t, l, bad)
		}
		paysNothing(t, ledgerWith(bad, nil), bad)
		paysNothing(t, ledgerWith(fracIn("1/1"), []impl.Frac{bad}), bad)
		paysNothing(t, ledgerIn("1/2", "2/3"), bad)
		paysNothing(t, ledgerIn("1/1", "0/1 0/1 0/1 0/1 0/1 0/1 0/1 0/1 0/1"), bad)
	}
}

// Chapter 32: the smallest and the largest integers.
func TestLedgerFunctionsOfTheEndsOfTheIntegers(t *testing.T) {
	ends := []int{math.MinInt, math.MinInt + 1, math.MinInt32, -1, 0, math.MaxInt32, math.MaxInt - 1, math.MaxInt}
	for _, num := range ends {
		for _, den := range ends {
			bad := fracOf(num, den)
			isNoLedger(t, ledgerWith(bad, nil))
			isNoLedger(t, ledgerWith(bad, []impl.Frac{bad, bad}))
			isNoLedger(t, ledgerWith(fracIn("999/1"), []impl.Frac{bad}))
			isNoLedger(t, ledgerWith(fracIn("999/1"), []impl.Frac{fracOf(1, 2), bad}))
			paysNothing(t, ledgerIn("999/1", ""), bad)
			paysNothing(t, ledgerIn("999/1", "1/2"), bad)
		}
	}
}

// Chapter 32: numbers of charges that are small in a smaller integer type, too.
func TestLedgersOfVeryManyCharges(t *testing.T) {
	for _, many := range []int{9, 10, 16, 17, 100, 255, 256, 257, 264, 265, 65535, 65536, 65537, 65544, 1 << 20, 1<<20 + 8} {
		for _, f := range fracsIn("0/1 1/60 999/1 0/2 1/0") {
			isNoLedger(t, ledgerWith(fracIn("999/1"), slices.Repeat([]impl.Frac{f}, many)))
		}
		late := slices.Repeat(fracsIn("0/1"), many)
		late[many-1] = fracIn("1/1")
		isNoLedger(t, ledgerWith(fracIn("0/1"), late))
		isNoLedger(t, ledgerWith(fracIn("1/1"), late))
		spends(t, ledgerWith(fracIn("1/1"), late[:8]), fracIn("0/1"))
	}
}

// General rules
func TestLedgersOfNilAndEmptyLists(t *testing.T) {
	for _, most := range append(budgets(), invalidFracs()...) {
		for _, f := range append(edgeFracs(), fracsIn("0/2 1/0 -1/2 1000/1")...) {
			without, okWithout := impl.LedgerPay(ledgerWith(most, nil), f)
			empty, okEmpty := impl.LedgerPay(ledgerWith(most, []impl.Frac{}), f)
			if okWithout != okEmpty || !sameLedger(without, empty) {
				t.Errorf("LedgerPay with %v and nil is %v, %t, and with an empty list %v, %t", most, without, okWithout, empty, okEmpty)
			}
			payingIsRight(t, ledgerWith(most, nil), f)
			payingIsRight(t, ledgerWith(most, []impl.Frac{}), f)
		}
		ledgerIsRight(t, ledgerWith(most, nil))
		ledgerIsRight(t, ledgerWith(most, []impl.Frac{}))
	}
}

// forLedgerCharges has ledgers and charges of every sort, valid or not, each with
// capacity left behind its charges, where nothing is a fraction.
func forLedgerCharges(check func(l impl.Ledger, f impl.Frac)) {
	spare := slices.Repeat([]impl.Frac{fracOf(-9, -9)}, 12)
	with := func(l impl.Ledger) impl.Ledger {
		return ledgerWith(l.Cap, slices.Concat(l.Paid, spare)[:len(l.Paid)])
	}
	forAnyLedgers(func(l impl.Ledger) {
		for _, f := range fracsIn("0/1 1/60 1/2 1/1 999/1 0/2") {
			check(with(l), f)
		}
	})
	for _, bad := range noFracs() {
		check(with(ledgerIn("1/1", "1/8 1/8")), bad)
		check(with(ledgerWith(bad, fracsIn("0/1"))), fracOf(0, 1))
		check(with(ledgerWith(fracOf(1, 1), []impl.Frac{fracOf(1, 2), bad})), fracOf(0, 1))
	}
}

// General rules: an argument keeps its elements and those beyond its length.
func TestLedgerFunctionsChangeNoArgument(t *testing.T) {
	forLedgerCharges(func(l impl.Ledger, f impl.Frac) {
		before := slices.Clone(whole(l.Paid))
		impl.LedgerOk(l)
		impl.LedgerSum(l)
		impl.LedgerCan(l, f)
		impl.LedgerPay(l, f)
		if !slices.Equal(whole(l.Paid), before) {
			t.Fatalf("the charges become %v, of %v", whole(l.Paid), before)
		}
		payingIsRight(t, l, f)
	})
}

// overwriteCharges is found out by whatever shares memory with a ledger.
func overwriteCharges(l impl.Ledger) {
	for i := range whole(l.Paid) {
		whole(l.Paid)[i] = fracOf(-7, -7)
	}
}

// General rules: also beyond their lengths, and of the ledger that is returned
// with false.
func TestLedgersShareNoMemory(t *testing.T) {
	refused := 0
	forLedgerCharges(func(l impl.Ledger, f impl.Frac) {
		given := slices.Clone(whole(l.Paid))
		first, ok := impl.LedgerPay(l, f)
		second, _ := impl.LedgerPay(l, f)
		kept := slices.Clone(whole(second.Paid))
		if !ok && len(first.Paid) > 0 {
			refused++
		}
		overwriteCharges(first)
		if !slices.Equal(whole(l.Paid), given) || !slices.Equal(whole(second.Paid), kept) {
			t.Fatalf("LedgerPay(%v, %v) shares memory with an argument or another result", l, f)
		}
		overwriteCharges(l)
		if !slices.Equal(whole(second.Paid), kept) {
			t.Fatalf("LedgerPay of %v and %v keeps memory of an argument", given, f)
		}
	})
	if refused < 1000 {
		t.Errorf("only %d ledgers are returned with false", refused)
	}
}

// General rules: one ledger may be charged twice, one apart from the other.
func TestLedgersOfOneLedgerAreApart(t *testing.T) {
	l := ledgerIn("1/1", "")
	for range 8 {
		first := pays(t, l, fracIn("1/8"))
		second := pays(t, l, fracIn("1/10"))
		same, ok := impl.LedgerPay(l, fracIn("2/1"))
		if ok {
			t.Fatalf("%v is charged 2/1", l)
		}
		_, _ = append(l.Paid, fracIn("1/2"), fracIn("1/2")), append(same.Paid, fracIn("1/3"), fracIn("1/3"))
		if !sameLedger(first, withCharge(l, fracIn("1/8"))) || !sameLedger(second, withCharge(l, fracIn("1/10"))) || !sameLedger(same, l) {
			t.Fatalf("of %v, the ledgers become %v, %v and %v", l, first, second, same)
		}
		l = first
	}
	spends(t, l, fracIn("1/1"))
}

// General rules: no ledger is kept to tell it by.
func TestLedgerFunctionsReadTheirArgumentsAnew(t *testing.T) {
	l := ledgerIn("1/1", "1/4 1/4")
	for range 3 {
		spends(t, l, fracIn("1/2"))
		pays(t, l, fracIn("1/2"))
		l.Paid[0] = fracIn("2/4")
		isNoLedger(t, l)
		l.Paid[0] = fracIn("3/4")
		spends(t, l, fracIn("1/1"))
		refuses(t, l, fracIn("1/2"))
		l.Paid[1] = fracIn("1/3")
		isNoLedger(t, l)
		l.Cap = fracIn("2/1")
		pays(t, l, fracIn("1/2"))
		l.Cap = fracIn("2/2")
		isNoLedger(t, l)
		l = ledgerWith(fracIn("1/1"), l.Paid)
		l.Paid[0], l.Paid[1] = fracIn("1/4"), fracIn("1/4")
	}
}

// ledgersAgree compares what all functions return of a ledger and a charge.
func ledgersAgree(t *testing.T, l impl.Ledger, f impl.Frac) {
	t.Helper()
	ledgerIsRight(t, l)
	payingIsRight(t, l, f)
}

// General rules: a result that depended on calls before it would differ.
func TestLedgersDoNotDependOnTheOrderOfCalls(t *testing.T) {
	lists := chargeLists()
	for i := len(lists) - 1; i >= 0; i-- {
		for j, f := range someCharges() {
			for _, most := range []impl.Frac{budgets()[j%len(budgets())], fracIn("999/1")} {
				ledgersAgree(t, ledgerWith(most, lists[i]), f)
				ledgersAgree(t, ledgerWith(most, nil), fracOf(2*f.Num, 2*f.Den))
				ledgersAgree(t, ledgerWith(most, lists[i][:len(lists[i])/2]), f)
			}
		}
	}
}

// General rules: calls at the same time keep no state.
func TestLedgerFunctionsAtTheSameTime(t *testing.T) {
	var callers sync.WaitGroup
	shared := chargeLists()
	for caller := range 8 {
		callers.Go(func() {
			for i := range shared {
				paid := shared[(i*7+caller*13)%len(shared)]
				for _, most := range budgets() {
					ledgersAgree(t, ledgerWith(most, paid), someCharges()[(i+caller)%31])
				}
			}
		})
	}
	callers.Wait()
}

package tests

import (
	"fmt"
	"math"
	"math/big"
	"slices"
	"strings"
	"sync"
	"testing"

	"loop.example/scrutineer/impl"
)

func fracOf(num, den int) impl.Frac {
	return impl.Frac{Num: num, Den: den}
}

// rightFrac follows the text of the document, and tries every common divisor.
func rightFrac(f impl.Frac) bool {
	if f.Num < 0 || f.Num > 999 || f.Den < 1 || f.Den > 60 {
		return false
	}
	for n := 2; n <= f.Den; n++ {
		if f.Num%n == 0 && f.Den%n == 0 {
			return false
		}
	}
	return true
}

// allFracs has all valid fractions.
func allFracs() []impl.Frac {
	var all []impl.Frac
	for den := 1; den <= 60; den++ {
		for num := range 1000 {
			if f := fracOf(num, den); rightFrac(f) {
				all = append(all, f)
			}
		}
	}
	return all
}

// edgeFracs has those next to a limit, and simple ones.
func edgeFracs() []impl.Frac {
	return []impl.Frac{
		{Num: 0, Den: 1}, {Num: 1, Den: 1}, {Num: 2, Den: 1}, {Num: 499, Den: 1}, {Num: 500, Den: 1}, {Num: 998, Den: 1}, {Num: 999, Den: 1},
		{Num: 1, Den: 2}, {Num: 1, Den: 3}, {Num: 2, Den: 3}, {Num: 3, Den: 4}, {Num: 1, Den: 30}, {Num: 1, Den: 31}, {Num: 1, Den: 58},
		{Num: 1, Den: 59}, {Num: 58, Den: 59}, {Num: 999, Den: 59}, {Num: 1, Den: 60}, {Num: 59, Den: 60}, {Num: 61, Den: 60},
		{Num: 999, Den: 2}, {Num: 997, Den: 2}, {Num: 499, Den: 30}, {Num: 989, Den: 60}, {Num: 991, Den: 60}, {Num: 997, Den: 60},
	}
}

// someFracs has valid fractions of every size and with every Den.
func someFracs() []impl.Frac {
	some := edgeFracs()
	for i, f := range allFracs() {
		if i%251 == 0 {
			some = append(some, f)
		}
	}
	return some
}

// smallFracs has those of which three often have a sum within the limits.
func smallFracs() []impl.Frac {
	small := []impl.Frac{{Num: 330, Den: 1}, {Num: 499, Den: 2}, {Num: 998, Den: 3}, {Num: 997, Den: 60}, {Num: 999, Den: 1}}
	for _, den := range []int{1, 2, 3, 4, 5, 6, 7, 8, 12, 14, 15, 20, 30, 60} {
		for _, num := range []int{0, 1, 2, 3, 5, 7, 11, 41, 199} {
			if f := fracOf(num, den); rightFrac(f) {
				small = append(small, f)
			}
		}
	}
	return small
}

// forFracPairs has pairs of fractions of any sort, and all that have a Den each
// and the least and the greatest Num with that, or the greatest one below 1.
func forFracPairs(check func(a, b impl.Frac)) {
	var ends []impl.Frac
	for den := 1; den <= 60; den++ {
		greatest := 999
		for !rightFrac(fracOf(greatest, den)) {
			greatest--
		}
		ends = append(ends, fracOf(1, den), fracOf(greatest, den))
		if den > 2 {
			ends = append(ends, fracOf(den-1, den))
		}
	}
	for _, l := range [][]impl.Frac{someFracs(), ends} {
		for _, a := range l {
			for _, b := range l {
				check(a, b)
			}
		}
	}
}

// noNums has numbers that are no Num, some of which are one in a smaller
// integer type.
func noNums() []int {
	return append(outside(999), 1<<8+1000, 1<<16+3, 1<<32+5, -(1<<32)+5, math.MinInt+3)
}

func noDens() []int {
	return append(outside(60), 0, 1<<8+4, 1<<16+4, 1<<32+4, -(1<<32)+4, math.MinInt+4)
}

// noFracs has fractions with a fault in either number alone and in both, and
// ones that are only not in lowest terms.
func noFracs() []impl.Frac {
	bad := []impl.Frac{{}, {Num: 0, Den: 2}, {Num: 0, Den: 60}, {Num: 2, Den: 2}, {Num: 60, Den: 60}, {Num: 2, Den: 4}, {Num: 998, Den: 2}, {Num: 999, Den: 27}, {Num: 58, Den: 29}, {Num: 57, Den: 60}}
	for _, num := range noNums() {
		bad = append(bad, fracOf(num, 1), fracOf(num, 59), fracOf(num, 60), fracOf(num, 0), fracOf(num, num))
	}
	for _, den := range noDens() {
		bad = append(bad, fracOf(0, den), fracOf(1, den), fracOf(997, den), fracOf(1000, den), fracOf(-1, den))
	}
	for _, num := range []int{math.MinInt, math.MinInt + 1, -1, 1000, math.MaxInt - 1, math.MaxInt} {
		for _, den := range []int{math.MinInt, math.MinInt + 1, -1, 0, 61, math.MaxInt - 1, math.MaxInt} {
			bad = append(bad, fracOf(num, den))
		}
	}
	return bad
}

// exact is a fraction in the arithmetic of the standard library.
func exact(f impl.Frac) *big.Rat {
	return big.NewRat(int64(f.Num), int64(f.Den))
}

// validFrac is the valid fraction that a number is, if there is one.
func validFrac(r *big.Rat) (impl.Frac, bool) {
	if f := fracOf(int(r.Num().Int64()), int(r.Denom().Int64())); rightFrac(f) {
		return f, true
	}
	return impl.Frac{}, false
}

// quotientOf is what FracOf is to return, for a den that is above 0.
func quotientOf(num, den int) (impl.Frac, bool) {
	if num < 0 || num > 99999 || den > 99999 {
		return impl.Frac{}, false
	}
	return validFrac(big.NewRat(int64(num), int64(den)))
}

func fracIs(t *testing.T, f impl.Frac, want bool) {
	t.Helper()
	if got := impl.FracOk(f); got != want {
		t.Errorf("FracOk(%v) is %t", f, got)
	}
}

// quotientIs checks a call that succeeds if and only if may is true.
func quotientIs(t *testing.T, num, den int, want impl.Frac, may bool) {
	t.Helper()
	if got, ok := impl.FracOf(num, den); ok != may || got != want {
		t.Errorf("FracOf(%d, %d) is %v, %t, not %v, %t", num, den, got, ok, want, may)
	}
}

func quotientFails(t *testing.T, num, den int) {
	t.Helper()
	quotientIs(t, num, den, impl.Frac{}, false)
}

// sumIs checks a call in both orders.
func sumIs(t *testing.T, a, b, want impl.Frac, may bool) {
	t.Helper()
	if got, ok := impl.FracSum(a, b); ok != may || got != want {
		t.Errorf("FracSum(%v, %v) is %v, %t, not %v, %t", a, b, got, ok, want, may)
	}
	if got, ok := impl.FracSum(b, a); ok != may || got != want {
		t.Errorf("FracSum(%v, %v) is %v, %t, not %v, %t", b, a, got, ok, want, may)
	}
}

func sumFails(t *testing.T, a, b impl.Frac) {
	t.Helper()
	sumIs(t, a, b, impl.Frac{}, false)
}

// sumIsExact has whether there is one.
func sumIsExact(t *testing.T, a, b impl.Frac) bool {
	t.Helper()
	want, may := validFrac(new(big.Rat).Add(exact(a), exact(b)))
	sumIs(t, a, b, want, may)
	return may
}

// orderIs checks a call in both orders.
func orderIs(t *testing.T, a, b impl.Frac, want int) {
	t.Helper()
	if got := impl.FracCmp(a, b); got != want {
		t.Errorf("FracCmp(%v, %v) is %d, not %d", a, b, got, want)
	}
	if got := impl.FracCmp(b, a); got != -want {
		t.Errorf("FracCmp(%v, %v) is %d, not %d", b, a, got, -want)
	}
}

func reads(t *testing.T, text string, want impl.Frac) {
	t.Helper()
	if got, ok := impl.FracRead(text); !ok || got != want {
		t.Errorf("FracRead(%q) is %v, %t, not %v", text, got, ok, want)
	}
}

func readFails(t *testing.T, text string) {
	t.Helper()
	if got, ok := impl.FracRead(text); ok || got != (impl.Frac{}) {
		t.Errorf("FracRead(%.99q) is %v, %t", text, got, ok)
	}
}

// isNoFrac checks every function that has a fraction as an argument.
func isNoFrac(t *testing.T, f impl.Frac) {
	t.Helper()
	fracIs(t, f, false)
	if got := impl.FracText(f); got != "" {
		t.Errorf("FracText(%v) is %q", f, got)
	}
	for _, other := range append(edgeFracs(), f, fracOf(f.Den, f.Num), fracOf(0, 2), fracOf(-3, 4), fracOf(math.MinInt, math.MinInt)) {
		sumFails(t, f, other)
		orderIs(t, f, other, 0)
	}
}

// Chapter 31
func TestLimitsOfFractionsAreThoseOfTheDocument(t *testing.T) {
	if impl.NumMax != 999 || impl.DenMax != 60 {
		t.Errorf("NumMax is %d and DenMax is %d", impl.NumMax, impl.DenMax)
	}
}

// Chapter 31: this compiles only if the fields are those of the document.
func TestFracHasTheFieldsOfTheDocument(t *testing.T) {
	fields := struct {
		Num int
		Den int
	}(impl.Frac{Num: 3, Den: 4})
	if fields.Num != 3 || fields.Den != 4 {
		t.Errorf("the fields are %v", fields)
	}
}

// Chapter 31: all valid fractions, and all others around them.
func TestFracOkOfNumbersAroundTheEnds(t *testing.T) {
	valid := 0
	for num := -70; num <= 2100; num++ {
		for den := -70; den <= 130; den++ {
			f := fracOf(num, den)
			want := rightFrac(f)
			if want {
				valid++
			}
			fracIs(t, f, want)
		}
	}
	// Counted without this program.
	if all := allFracs(); valid != 36591 || len(all) != 36591 {
		t.Errorf("%d fractions are valid, and %d are listed", valid, len(all))
	}
}

// Chapter 31: as the document names them.
func TestFracOkOfExamples(t *testing.T) {
	for f, want := range map[impl.Frac]bool{
		{Num: -1, Den: 1}: false, {Num: 0, Den: 1}: true, {Num: impl.NumMax, Den: 1}: true, {Num: impl.NumMax + 1, Den: 1}: false,
		{Num: -1, Den: 59}: false, {Num: impl.NumMax, Den: 59}: true, {Num: impl.NumMax + 1, Den: 59}: false,
		{Num: 1, Den: 0}: false, {Num: 1, Den: 1}: true, {Num: 1, Den: impl.DenMax}: true, {Num: 1, Den: impl.DenMax + 1}: false,
		{Num: 997, Den: 0}: false, {Num: 997, Den: impl.DenMax}: true, {Num: 997, Den: impl.DenMax + 1}: false,
		{Num: 0, Den: 0}: false, {Num: 0, Den: 2}: false, {Num: 0, Den: 59}: false, {Num: 0, Den: impl.DenMax}: false,
		{Num: 3, Den: 4}: true, {Num: 6, Den: 8}: false, {Num: 4, Den: 2}: false, {Num: 7, Den: 7}: false, {Num: 999, Den: 60}: false,
		{Num: impl.NumMax + 1, Den: impl.DenMax + 1}: false, {Num: -3, Den: -4}: false, {Num: 3, Den: -4}: false,
	} {
		fracIs(t, f, want)
	}
}

// P100
func TestValidFractionsBecomeInvalid(t *testing.T) {
	for _, f := range allFracs() {
		fracIs(t, f, true)
		for _, n := range []int{2, 3, 7, 31, 60} {
			fracIs(t, fracOf(n*f.Num, n*f.Den), false)
		}
		fracIs(t, fracOf(f.Num, -f.Den), false)
		fracIs(t, fracOf(-f.Num, -f.Den), false)
		fracIs(t, fracOf(-1-f.Num, f.Den), false)
		if f.Num > 0 {
			fracIs(t, fracOf(-f.Num, f.Den), false)
		}
	}
}

// P100: every function sees it.
func TestFunctionsOfFractionsThatBecomeInvalid(t *testing.T) {
	for _, f := range someFracs() {
		isNoFrac(t, fracOf(2*f.Num, 2*f.Den))
		isNoFrac(t, fracOf(f.Num, -f.Den))
		isNoFrac(t, fracOf(-1-f.Num, f.Den))
	}
}

// Chapter 31
func TestFunctionsOfInvalidFractions(t *testing.T) {
	for _, f := range noFracs() {
		isNoFrac(t, f)
	}
}

// Chapter 31: each together with each other one.
func TestFunctionsOfTwoInvalidFractions(t *testing.T) {
	for i, a := range noFracs() {
		for j, b := range noFracs() {
			if (i+j)%7 == 0 {
				sumFails(t, a, b)
				orderIs(t, a, b, 0)
			}
		}
	}
}

// Chapter 31: beyond the limits on both sides at once.
func TestFracOkOfTwoNumbersOutOfRange(t *testing.T) {
	for _, num := range noNums() {
		for _, den := range noDens() {
			fracIs(t, fracOf(num, den), false)
			fracIs(t, fracOf(den, num), false)
		}
	}
}

// P97: calculated by hand.
func TestFracOfOfExamples(t *testing.T) {
	for _, c := range []struct {
		num, den int
		want     impl.Frac
	}{
		{6, 8, impl.Frac{Num: 3, Den: 4}}, {3, 4, impl.Frac{Num: 3, Den: 4}}, {4, 2, impl.Frac{Num: 2, Den: 1}},
		{0, 1, impl.Frac{Num: 0, Den: 1}}, {0, 7, impl.Frac{Num: 0, Den: 1}}, {1, 1, impl.Frac{Num: 1, Den: 1}},
		{999, 1, impl.Frac{Num: 999, Den: 1}}, {999, 60, impl.Frac{Num: 333, Den: 20}}, {997, 60, impl.Frac{Num: 997, Den: 60}},
		{60939, 61, impl.Frac{Num: 999, Den: 1}}, {61, 3660, impl.Frac{Num: 1, Den: 60}}, {61, 61, impl.Frac{Num: 1, Den: 1}},
		{1000, 2, impl.Frac{Num: 500, Den: 1}}, {1000, 1000, impl.Frac{Num: 1, Den: 1}}, {1998, 2, impl.Frac{Num: 999, Den: 1}},
		{99999, 271, impl.Frac{Num: 369, Den: 1}}, {99999, 99999, impl.Frac{Num: 1, Den: 1}}, {49999, 99998, impl.Frac{Num: 1, Den: 2}},
		{99700, 6000, impl.Frac{Num: 997, Den: 60}}, {99900, 5900, impl.Frac{Num: 999, Den: 59}}, {1666, 99960, impl.Frac{Num: 1, Den: 60}},
	} {
		quotientIs(t, c.num, c.den, c.want, true)
	}
}

// P97: as the document names them; no quotient of 1 and 99999 is within limits.
func TestFracOfAtTheEnds(t *testing.T) {
	valid := map[[2]int]impl.Frac{
		{0, 1}: {Num: 0, Den: 1}, {0, 99999}: {Num: 0, Den: 1}, {1, 1}: {Num: 1, Den: 1}, {99999, 99999}: {Num: 1, Den: 1},
	}
	ends := []int{-1, 0, 1, 99999, 100000}
	for _, num := range ends {
		for _, den := range ends {
			want, may := valid[[2]int{num, den}]
			quotientIs(t, num, den, want, may)
		}
	}
}

// P97
func TestFracOfOfManyQuotients(t *testing.T) {
	for num := range 1300 {
		for den := 1; den <= 130; den++ {
			want, may := quotientOf(num, den)
			quotientIs(t, num, den, want, may)
		}
	}
}

// P97: of numbers far beyond the limits of fractions.
func TestFracOfOfLargeNumbers(t *testing.T) {
	large := []int{998, 999, 1000, 3600, 59940, 60000, 99900, 99960, 99997, 99998, 99999}
	for n := 1; n < 99999; n += 997 {
		large = append(large, n, 60*(n/60), 720*(n/720))
	}
	valid := 0
	for _, num := range large {
		for _, den := range large {
			if den == 0 {
				continue
			}
			want, may := quotientOf(num, den)
			quotientIs(t, num, den, want, may)
			if may {
				valid++
			}
		}
	}
	if valid < 1000 {
		t.Errorf("only %d quotients are valid", valid)
	}
}

// P97: each factor as long as both numbers are within the limit, the greatest
// one among them, and the one that is just too great.
func TestFactorsDoNotChangeAQuotient(t *testing.T) {
	for _, f := range allFracs() {
		greatest := 99999 / max(f.Num, f.Den)
		for _, n := range []int{1, 2, 3, 7, 59, 60, 61, 97, 100, 720, 1000, greatest/2 + 1, greatest - 1, greatest} {
			if n <= greatest {
				quotientIs(t, n*f.Num, n*f.Den, f, true)
			} else {
				quotientFails(t, n*f.Num, n*f.Den)
			}
		}
		quotientFails(t, (greatest+1)*f.Num, (greatest+1)*f.Den)
	}
}

// P97: lowest terms beyond NumMax, beyond DenMax and beyond both, and multiples.
func TestFracOfOfQuotientsThatAreNoFraction(t *testing.T) {
	for _, f := range []impl.Frac{
		{Num: 1000, Den: 1}, {Num: 1001, Den: 60}, {Num: 1999, Den: 2}, {Num: 99999, Den: 1}, {Num: 99999, Den: 100}, {Num: 99999, Den: 59},
		{Num: 1, Den: 61}, {Num: 999, Den: 61}, {Num: 60, Den: 61}, {Num: 2, Den: 63}, {Num: 1, Den: 99999}, {Num: 998, Den: 99999},
		{Num: 1000, Den: 61}, {Num: 99998, Den: 99999}, {Num: 99999, Den: 99998}, {Num: 1 << 16, Den: 99999}, {Num: 99991, Den: 1 << 16},
	} {
		for n := 1; n*max(f.Num, f.Den) <= 99999; n++ {
			quotientFails(t, n*f.Num, n*f.Den)
		}
	}
}

// Chapter 31: also such as would be a fraction.
func TestFracOfOfNumbersOutOfRange(t *testing.T) {
	few := []int{0, 1, 2, 60, 999, 99998, 99999}
	for _, n := range outside(99999) {
		for _, m := range few {
			quotientFails(t, n, m)
			quotientFails(t, m, n)
		}
		for _, m := range outside(99999) {
			quotientFails(t, n, m)
		}
	}
	for _, n := range few {
		quotientFails(t, n, 0)
	}
	for _, pair := range [][2]int{
		{100000, 200}, {100000, 50000}, {1000, 100000}, {199998, 99999}, {99999, 199998}, {-3, -4}, {-3, 4}, {3, -4}, {-6, -2},
		{1<<32 + 3, 4}, {3, 1<<32 + 4}, {1<<16 + 100000, 4}, {math.MinInt, math.MinInt}, {math.MaxInt, math.MaxInt}, {0, math.MinInt}, {0, -1},
	} {
		quotientFails(t, pair[0], pair[1])
	}
}

// P98: calculated by hand.
func TestFracSumOfExamples(t *testing.T) {
	for _, c := range [][3]impl.Frac{
		{{Num: 1, Den: 2}, {Num: 1, Den: 3}, {Num: 5, Den: 6}},
		{{Num: 0, Den: 1}, {Num: 0, Den: 1}, {Num: 0, Den: 1}},
		{{Num: 1, Den: 4}, {Num: 1, Den: 4}, {Num: 1, Den: 2}},
		{{Num: 998, Den: 1}, {Num: 1, Den: 1}, {Num: 999, Den: 1}},
		{{Num: 999, Den: 1}, {Num: 0, Den: 1}, {Num: 999, Den: 1}},
		{{Num: 997, Den: 59}, {Num: 2, Den: 59}, {Num: 999, Den: 59}},
		{{Num: 499, Den: 1}, {Num: 1, Den: 2}, {Num: 999, Den: 2}},
		{{Num: 1, Den: 4}, {Num: 1, Den: 15}, {Num: 19, Den: 60}},
		{{Num: 1, Den: 12}, {Num: 1, Den: 10}, {Num: 11, Den: 60}},
		{{Num: 7, Den: 20}, {Num: 2, Den: 3}, {Num: 61, Den: 60}},
		{{Num: 59, Den: 60}, {Num: 1, Den: 60}, {Num: 1, Den: 1}},
		{{Num: 1, Den: 60}, {Num: 1, Den: 60}, {Num: 1, Den: 30}},
		{{Num: 1, Den: 35}, {Num: 1, Den: 14}, {Num: 1, Den: 10}},
		{{Num: 5, Den: 42}, {Num: 1, Den: 3}, {Num: 19, Den: 42}},
		{{Num: 499, Den: 2}, {Num: 499, Den: 2}, {Num: 499, Den: 1}},
		{{Num: 997, Den: 30}, {Num: 1, Den: 30}, {Num: 499, Den: 15}},
		{{Num: 983, Den: 60}, {Num: 4, Den: 15}, {Num: 333, Den: 20}},
	} {
		sumIs(t, c[0], c[1], c[2], true)
	}
}

// P98: the numbers of these sums are beyond the limits of FracOf, too.
func TestFracSumOfVeryLargeNumbers(t *testing.T) {
	for _, c := range [][3]impl.Frac{
		{{Num: 997, Den: 60}, {Num: 991, Den: 60}, {Num: 497, Den: 15}},
		{{Num: 991, Den: 60}, {Num: 989, Den: 60}, {Num: 33, Den: 1}},
		{{Num: 997, Den: 60}, {Num: 997, Den: 60}, {Num: 997, Den: 30}},
		{{Num: 989, Den: 58}, {Num: 997, Den: 58}, {Num: 993, Den: 29}},
	} {
		if c[0].Num*c[1].Den+c[1].Num*c[0].Den <= 99999 {
			t.Errorf("%v and %v are too small", c[0], c[1])
		}
		sumIs(t, c[0], c[1], c[2], true)
	}
}

// P98: just beyond a limit, or far.
func TestFracSumOfFractionsWithoutASum(t *testing.T) {
	for _, c := range [][2]impl.Frac{
		{{Num: 999, Den: 1}, {Num: 1, Den: 1}}, {{Num: 998, Den: 59}, {Num: 2, Den: 59}}, {{Num: 500, Den: 1}, {Num: 1, Den: 2}},
		{{Num: 998, Den: 1}, {Num: 1, Den: 2}}, {{Num: 999, Den: 1}, {Num: 1, Den: 60}}, {{Num: 999, Den: 1}, {Num: 999, Den: 1}},
		{{Num: 999, Den: 59}, {Num: 999, Den: 59}}, {{Num: 500, Den: 1}, {Num: 500, Den: 1}}, {{Num: 501, Den: 7}, {Num: 499, Den: 7}},
		{{Num: 1, Den: 2}, {Num: 1, Den: 31}}, {{Num: 1, Den: 7}, {Num: 1, Den: 9}}, {{Num: 1, Den: 8}, {Num: 1, Den: 9}},
		{{Num: 1, Den: 55}, {Num: 1, Den: 10}}, {{Num: 1, Den: 60}, {Num: 1, Den: 59}}, {{Num: 999, Den: 58}, {Num: 999, Den: 59}},
		{{Num: 1, Den: 60}, {Num: 1, Den: 7}}, {{Num: 997, Den: 60}, {Num: 999, Den: 59}},
	} {
		sumFails(t, c[0], c[1])
	}
}

// P98: some have a sum, and some have none.
func TestFracSumIsExact(t *testing.T) {
	with, without := 0, 0
	forFracPairs(func(a, b impl.Frac) {
		if sumIsExact(t, a, b) {
			with++
		} else {
			without++
		}
	})
	if with < 1000 || without < 1000 {
		t.Errorf("%d pairs have a sum, and %d have none", with, without)
	}
}

// P98: of each valid fraction.
func TestFracSumOfAllFractions(t *testing.T) {
	edges := edgeFracs()
	for i, f := range allFracs() {
		sumIsExact(t, f, edges[i%len(edges)])
		sumIsExact(t, f, fracOf(1, 1+i%60))
		sumIsExact(t, f, f)
	}
}

// P98: sums whose numbers are NumMax, and some less or more, before they are in
// lowest terms.
func TestFracSumAroundNumMax(t *testing.T) {
	for _, f := range allFracs() {
		for num := 998 - f.Num; num <= 1002-f.Num; num++ {
			if other := fracOf(num, f.Den); rightFrac(other) {
				sumIsExact(t, f, other)
			}
		}
	}
}

// P98
func TestFracSumWithZero(t *testing.T) {
	for _, f := range allFracs() {
		sumIs(t, f, fracOf(0, 1), f, true)
	}
}

// P101: if the sums of two are within the limits, either both sums of three are
// or neither is.
func TestFracSumIsAssociative(t *testing.T) {
	within := 0
	small := smallFracs()
	for _, a := range small {
		for _, b := range small {
			first, okFirst := impl.FracSum(a, b)
			for _, c := range small {
				second, okSecond := impl.FracSum(b, c)
				if !okFirst || !okSecond {
					continue
				}
				left, okLeft := impl.FracSum(first, c)
				right, okRight := impl.FracSum(a, second)
				if left != right || okLeft != okRight {
					t.Fatalf("%v, %v and %v add up to %v, %t or %v, %t", a, b, c, left, okLeft, right, okRight)
				}
				if okLeft {
					within++
				}
			}
		}
	}
	if within < 50000 {
		t.Errorf("only %d sums are within the limits", within)
	}
}

// P103
func TestFracSumOfAFractionAndItself(t *testing.T) {
	with := 0
	for _, f := range allFracs() {
		want, may := impl.FracOf(2*f.Num, f.Den)
		sumIs(t, f, f, want, may)
		if may {
			with++
			orderIs(t, exactlyTwice(t, f), want, 0)
		}
	}
	if with < 10000 {
		t.Errorf("only %d fractions have twice as much", with)
	}
}

// exactlyTwice is twice a fraction, in another arithmetic.
func exactlyTwice(t *testing.T, f impl.Frac) impl.Frac {
	t.Helper()
	twice, may := validFrac(new(big.Rat).Add(exact(f), exact(f)))
	if !may {
		t.Fatalf("there is no fraction that is twice %v", f)
	}
	return twice
}

// P99: by hand.
func TestFracCmpOfExamples(t *testing.T) {
	for _, c := range [][2]impl.Frac{
		{{Num: 1, Den: 2}, {Num: 2, Den: 3}}, {{Num: 0, Den: 1}, {Num: 1, Den: 60}}, {{Num: 1, Den: 60}, {Num: 1, Den: 59}},
		{{Num: 998, Den: 1}, {Num: 999, Den: 1}}, {{Num: 997, Den: 60}, {Num: 999, Den: 59}}, {{Num: 1, Den: 3}, {Num: 1, Den: 2}},
		{{Num: 58, Den: 59}, {Num: 59, Den: 60}}, {{Num: 59, Den: 60}, {Num: 1, Den: 1}}, {{Num: 1, Den: 1}, {Num: 61, Den: 60}},
		{{Num: 61, Den: 60}, {Num: 60, Den: 59}}, {{Num: 997, Den: 60}, {Num: 17, Den: 1}}, {{Num: 999, Den: 2}, {Num: 500, Den: 1}},
		{{Num: 499, Den: 1}, {Num: 999, Den: 2}}, {{Num: 0, Den: 1}, {Num: 999, Den: 1}}, {{Num: 3, Den: 7}, {Num: 7, Den: 3}},
	} {
		orderIs(t, c[0], c[1], -1)
		orderIs(t, c[0], c[0], 0)
		orderIs(t, c[1], c[1], 0)
	}
}

// P99: 0 only for equal fractions, and the other way round in the other order.
func TestFracCmpOfManyPairs(t *testing.T) {
	forFracPairs(func(a, b impl.Frac) {
		want := exact(a).Cmp(exact(b))
		orderIs(t, a, b, want)
		if (impl.FracCmp(a, b) == 0) != (a == b) {
			t.Errorf("FracCmp(%v, %v) is %d", a, b, impl.FracCmp(a, b))
		}
	})
}

// sortedFracs has all valid fractions from the least to the greatest one.
func sortedFracs() []impl.Frac {
	all := allFracs()
	// Two that differ do so by at least 1/3600, which is far more than the error
	// of a quotient.
	slices.SortFunc(all, func(a, b impl.Frac) int {
		if float64(a.Num)/float64(a.Den) < float64(b.Num)/float64(b.Den) {
			return -1
		}
		return 1
	})
	return all
}

// P99: also those that are next to each other.
func TestFracCmpOfAllFractionsInOrder(t *testing.T) {
	all := sortedFracs()
	for i, f := range all {
		orderIs(t, f, f, 0)
		for _, step := range []int{1, 2, 3, 100, 10000} {
			if i+step < len(all) {
				orderIs(t, f, all[i+step], -1)
			}
		}
	}
}

// P99
func TestFracCmpOfEqualNumeratorsOrDenominators(t *testing.T) {
	all := allFracs()
	for i, f := range all {
		if i > 0 && all[i-1].Den == f.Den {
			orderIs(t, all[i-1], f, -1)
		}
		for den := f.Den + 1; den <= 60 && f.Num > 0; den++ {
			if other := fracOf(f.Num, den); rightFrac(other) {
				orderIs(t, f, other, 1)
			}
		}
	}
}

// P99: as its text says it.
func TestFracCmpDoesNotChangeWhenOneIsAdded(t *testing.T) {
	within := 0
	sameAfterOne := func(a, b impl.Frac) {
		moreA, okA := impl.FracSum(a, fracOf(1, 1))
		moreB, okB := impl.FracSum(b, fracOf(1, 1))
		if okA && okB {
			within++
			orderIs(t, moreA, moreB, impl.FracCmp(a, b))
			orderIs(t, moreA, moreB, exact(a).Cmp(exact(b)))
		}
	}
	forFracPairs(sameAfterOne)
	all := sortedFracs()
	for i := 1; i < len(all); i++ {
		sameAfterOne(all[i-1], all[i])
		sameAfterOne(all[i], all[i])
	}
	if within < 30000 {
		t.Errorf("only %d pairs are within the limits", within)
	}
}

// P102
func TestFracCmpIsTransitive(t *testing.T) {
	some := append(edgeFracs(), smallFracs()...)
	for _, a := range some {
		for _, b := range some {
			for _, c := range some {
				first, second, both := impl.FracCmp(a, b), impl.FracCmp(b, c), impl.FracCmp(a, c)
				// If neither step is against the other one, both together are in
				// their direction.
				if first*second >= 0 && both != max(-1, min(1, first+second)) {
					t.Fatalf("%v, %v and %v are in the order %d, %d and %d", a, b, c, first, second, both)
				}
			}
		}
	}
}

// P95
func TestEachValidFractionIsReadBack(t *testing.T) {
	for _, f := range allFracs() {
		text := fmt.Sprintf("%d/%d", f.Num, f.Den)
		if got := impl.FracText(f); got != text {
			t.Errorf("FracText(%v) is %q", f, got)
		}
		reads(t, impl.FracText(f), f)
		reads(t, text, f)
	}
}

// P95: by hand.
func TestFracTextOfExamples(t *testing.T) {
	for text, f := range map[string]impl.Frac{
		"3/4": {Num: 3, Den: 4}, "0/1": {Num: 0, Den: 1}, "1/1": {Num: 1, Den: 1}, "2/1": {Num: 2, Den: 1}, "999/1": {Num: 999, Den: 1},
		"1/60": {Num: 1, Den: 60}, "997/60": {Num: 997, Den: 60}, "100/51": {Num: 100, Den: 51}, "10/9": {Num: 10, Den: 9},
	} {
		if got := impl.FracText(f); got != text {
			t.Errorf("FracText(%v) is %q", f, got)
		}
		reads(t, text, f)
	}
}

// P96: numbers that are not in lowest terms or beyond a limit.
func TestFracReadOfAllNumbersAroundTheEnds(t *testing.T) {
	for num := -20; num <= 2100; num++ {
		for den := -20; den <= 130; den++ {
			f := fracOf(num, den)
			text := fmt.Sprintf("%d/%d", num, den)
			if rightFrac(f) {
				reads(t, text, f)
			} else {
				readFails(t, text)
			}
		}
	}
}

// P96: as the document names them.
func TestFracReadOfOtherTexts(t *testing.T) {
	for _, text := range []string{
		"", "/", "//", "3", "34", "3/", "/4", "/3/4", "3/4/", "3//4", "3/4/5", "3/4/1", "1/1/1", "3/4 3/4", "3/43/4", "0", "0/", "/1", "1",
		"03/4", "3/04", "003/4", "3/004", "00/1", "0/01", "000/1", "01/1", "1/01", "0999/1", "0/0", "1/0", "0/00",
		"+3/4", "3/+4", "-3/4", "3/-4", "-3/-4", "+0/1", "-0/1", "0/-1", "0/+1", "--3/4", "+-3/4", "3-/4", "3/4-",
		" 3/4", "3/4 ", "3 /4", "3/ 4", "3 4", " ", "3/4\n", "\n3/4", "3/4\r\n", "\t3/4", "3/4\t", "3/4\x00", "\x003/4", "3\x00/4",
		"3.0/4", "3/4.0", "3,0/4", "0.75", "3:4", "3\\4", "3|4", "3%4", "a/b", "x3/4", "3/4x", "3e0/4", "1e1/3", "0x3/4", "0b1/2", "0o3/4", "3_0/7", "1_0/3", "ten/3",
		"٣/٤", "３/４", "３/4", "3/４", "³/₄", "¾", "½", "3/٤", "3∕4", "3⁄4", "3／4", "۳/۴", "३/४", "𝟑/𝟒", "3/\u200b4", "\ufeff3/4", "3/4\u00a0",
		"\xff", "\xff/4", "3/\xff", "3\xb2/4", "3/4\xff", "\xc0\xb3/4", "inf/1", "NaN/1", "nil", "true", "{3 4}", "[3/4]", "(3/4)", "\"3/4\"",
		"2/4", "0/2", "0/60", "2/2", "60/60", "4/2", "57/60", "998/2", "999/60", "1/61", "999/61", "1/100", "1000/1", "1001/60", "1000/61", "9999/10000",
	} {
		readFails(t, text)
	}
}

// P96: numbers whose lowest bits are those of a fraction, and the limits of the
// integer types.
func TestFracReadOfVeryLargeNumbers(t *testing.T) {
	for _, text := range []string{
		"1027/4", "3/260", "65539/4", "3/65540", "4294967299/4", "3/4294967300", "18446744073709551619/4", "3/18446744073709551620",
		"340282366920938463463374607431768211459/4", "3/340282366920938463463374607431768211460", "18446744073709551616/18446744073709551617",
		"9223372036854775807/1", "9223372036854775808/1", "-9223372036854775808/1", "-9223372036854775809/1", "1/9223372036854775807",
		"1/-9223372036854775808", "9223372036854775807/9223372036854775807", "-9223372036854775808/-9223372036854775808",
		"2147483647/1", "2147483648/1", "-2147483648/1", "1/2147483647", "99999/1", "100000/1", "99999/99999", "6/8",
	} {
		readFails(t, text)
	}
}

// P96
func TestFracReadOfVeryLongTexts(t *testing.T) {
	for _, many := range []int{4, 7, 19, 20, 21, 64, 1000, 1 << 20} {
		for _, part := range []string{"0", "1", "3", "9", "/", " ", "-", "3/4", "a", "\x00", "\xff", "٣"} {
			long := strings.Repeat(part, many)
			for _, text := range []string{long, long + "/4", "3/" + long, long + "3/4", "3/4" + long, long + "/" + long, "3" + long + "/4", "3/" + long + "4"} {
				readFails(t, text)
			}
		}
	}
}

// readingIsOneWay checks any text against the texts of all valid fractions.
func readingIsOneWay(t *testing.T, text string, valid map[string]impl.Frac) {
	t.Helper()
	got, ok := impl.FracRead(text)
	if want, may := valid[text]; ok != may || got != want {
		t.Fatalf("FracRead(%q) is %v, %t, not %v, %t", text, got, ok, want, may)
	}
	if ok && (!impl.FracOk(got) || impl.FracText(got) != text) {
		t.Fatalf("FracRead(%q) is %v, whose text is %q", text, got, impl.FracText(got))
	}
}

// fracTexts has the text of each valid fraction.
func fracTexts() map[string]impl.Frac {
	valid := make(map[string]impl.Frac)
	for _, f := range allFracs() {
		valid[fmt.Sprintf("%d/%d", f.Num, f.Den)] = f
	}
	return valid
}

// P96: every text of at most five bytes of those that could be misread.
func TestFracReadOfAllShortTexts(t *testing.T) {
	valid := fracTexts()
	bytes := []int{'0', '1', '2', '6', '9', '/', '+', '-', ' ', '_', 'e', 0xff}
	for many := range 6 {
		forTuples(many, bytes, func(l []int) {
			text := make([]byte, many)
			for i, b := range l {
				text[i] = byte(b)
			}
			readingIsOneWay(t, string(text), valid)
		})
	}
}

// P96: every change of one byte, every byte more, and every byte less.
func TestFracReadOfChangedTexts(t *testing.T) {
	valid := fracTexts()
	for _, f := range someFracs() {
		text := fmt.Sprintf("%d/%d", f.Num, f.Den)
		for i := range len(text) + 1 {
			for b := range 256 {
				readingIsOneWay(t, text[:i]+string([]byte{byte(b)})+text[i:], valid)
				if i < len(text) {
					readingIsOneWay(t, text[:i]+string([]byte{byte(b)})+text[i+1:], valid)
				}
			}
			readingIsOneWay(t, text[:i], valid)
			readingIsOneWay(t, text[i:], valid)
			readingIsOneWay(t, text[i:]+text[:i], valid)
			if i < len(text) {
				readingIsOneWay(t, text[:i]+text[i+1:], valid)
			}
		}
	}
}

// fractionsAgree compares what all functions return of two valid fractions.
func fractionsAgree(t *testing.T, a, b impl.Frac) {
	t.Helper()
	sumIsExact(t, a, b)
	orderIs(t, a, b, exact(a).Cmp(exact(b)))
	reads(t, impl.FracText(a), a)
	quotientIs(t, 7*b.Num, 7*b.Den, b, true)
	fracIs(t, a, true)
}

// General rules: a result that depended on calls before it would differ.
func TestFractionsDoNotDependOnTheOrderOfCalls(t *testing.T) {
	some := someFracs()
	for i := len(some) - 1; i >= 0; i-- {
		for j, b := range some {
			if (i+j)%11 == 0 {
				isNoFrac(t, fracOf(2*b.Num, 2*b.Den))
				readFails(t, fmt.Sprintf("%d/0", b.Num))
				quotientFails(t, b.Num, 0)
				fractionsAgree(t, some[i], b)
				fractionsAgree(t, b, some[i])
			}
		}
	}
}

// General rules: calls at the same time keep no state.
func TestFractionsAtTheSameTime(t *testing.T) {
	var callers sync.WaitGroup
	some := someFracs()
	for caller := range 8 {
		callers.Go(func() {
			for i, a := range some {
				fractionsAgree(t, a, some[(i*7+caller*13)%len(some)])
			}
		})
	}
	callers.Wait()
}

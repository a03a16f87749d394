package tests

import (
	"runtime"
	"slices"
	"sync"
	"testing"
	"time"

	"loop.example/scrutineer/impl"
)

// firstPoints has TypeLen+1 of each type, the least query point.
func firstPoints() map[int]int {
	return map[int]int{1: 2, 2: 5, 3: 4}
}

// allQueries has how many pairs of a query point and an element w there are.
func allQueries() map[int]int {
	return map[int]int{1: 29 * 31, 2: 26 * 31, 3: 27 * 31}
}

// bounds has 2*TypeLen*FieldSize of each type.
func bounds() map[int]int {
	return map[int]int{1: 62, 2: 248, 3: 186}
}

func points(kind int) []int {
	return elements()[firstPoints()[kind]:]
}

// somePoints has both ends, the two next to them, and others.
func somePoints(kind int) []int {
	first := firstPoints()[kind]
	return []int{first, first + 1, 9, 17, last - 1, last}
}

// noPoints has the points of the vector, 0, and numbers that are no elements.
func noPoints(kind int) []int {
	return slices.Concat(elements()[:firstPoints()[kind]], notElements(), outside(last))
}

func forQueries(kind int, check func(at, w int)) {
	for _, at := range points(kind) {
		for w := range impl.FieldSize {
			check(at, w)
		}
	}
}

// forSomeQueries has each query point, and each w, but not both together.
func forSomeQueries(kind int, check func(at, w int)) {
	for _, at := range points(kind) {
		for _, w := range []int{0, 1, 2, 7, last} {
			check(at, w)
		}
	}
	for _, at := range somePoints(kind) {
		for w := range impl.FieldSize {
			check(at, w)
		}
	}
}

// forFewQueries has some query points with some w.
func forFewQueries(kind int, check func(at, w int)) {
	for _, at := range somePoints(kind) {
		for _, w := range []int{0, 1, 7, last} {
			check(at, w)
		}
	}
}

// forLists has lists of each type, of which only some have a correct proof.
func forLists(check func(kind int, l []int)) {
	for kind := range lengths() {
		for _, l := range listsOf(kind) {
			check(kind, l)
		}
	}
}

// splitsOf has the second shares of a list: nothing, the list itself, the least
// and the greatest elements, and drawn ones.
func splitsOf(l []int) [][]int {
	d := draw(47)
	many := len(l)
	splits := [][]int{make([]int, many), l, slices.Repeat([]int{1}, many), slices.Repeat([]int{last}, many)}
	for range 3 {
		splits = append(splits, d.poly(many))
	}
	return splits
}

// asking is a share of a list as the document describes its answers.
type asking struct {
	kind int
	c    int
	v    []int
	f    []int
	g    []int
	h    []int
}

func askingOf(kind int, l []int, first bool) asking {
	many, c := lengths()[kind], 0
	if first {
		c = 1
	}
	f, g := []int{l[many]}, []int{l[many+1]}
	for _, n := range l[:many] {
		f = append(f, n)
		g = append(g, (n+31-c)%31)
	}
	return asking{kind, c, l[:many], throughOf(f), throughOf(g), l[many+2:]}
}

func (a asking) check(w int) int {
	total, power, sum := 0, 1, 0
	for i, n := range a.v {
		total += power * valueOf(a.h, i+1)
		power = power * w % 31
		sum += n
	}
	if a.kind == 2 {
		total += power * (sum + 31 - a.c)
	}
	return total % 31
}

func (a asking) answer(at, w int) []int {
	return []int{valueOf(a.f, at), valueOf(a.g, at), valueOf(a.h, at), a.check(w)}
}

// accepts says of an answer as a whole what the document asks of it.
func accepts(q []int) bool {
	return q[0]*q[1]%31 == q[2] && q[3] == 0
}

// chanceOf needs no pairs: the first three elements of an answer do not depend
// on w, and the fourth does not depend on the query point.
func chanceOf(kind int, l []int) int {
	a, good, zeros := askingOf(kind, l, true), 0, 0
	for _, at := range points(kind) {
		if valueOf(a.f, at)*valueOf(a.g, at)%31 == valueOf(a.h, at) {
			good++
		}
	}
	for w := range impl.FieldSize {
		if a.check(w) == 0 {
			zeros++
		}
	}
	return good * zeros
}

// proves says whether a list is an encoding with a correct proof.
func proves(kind int, l []int) bool {
	many := lengths()[kind]
	v, p := l[:many], impl.Proof{U: l[many], V: l[many+1], H: l[many+2:]}
	return ruleHolds(kind, v) && sameProof(p, proofOf(v, p.U, p.V))
}

func ask(t *testing.T, kind int, l []int, first bool, at, w int) []int {
	t.Helper()
	q, ok := impl.QueryAsk(kind, l, first, at, w)
	if !ok || len(q) != 4 || !impl.ShareOk(q) {
		t.Fatalf("QueryAsk(%d, %v, %t, %d, %d) is %v, %t", kind, l, first, at, w, q, ok)
	}
	return q
}

func askFails(t *testing.T, kind int, l []int, at, w int) {
	t.Helper()
	for _, first := range []bool{true, false} {
		if q, ok := impl.QueryAsk(kind, l, first, at, w); ok || len(q) != 0 {
			t.Errorf("QueryAsk(%d, %v, %t, %d, %d) is %v, %t", kind, l, first, at, w, q, ok)
		}
	}
}

// decides checks both orders, too.
func decides(t *testing.T, a, b []int, want bool) {
	t.Helper()
	if got := impl.QueryDecide(a, b); got != want {
		t.Errorf("QueryDecide(%v, %v) is %t", a, b, got)
	}
	if got := impl.QueryDecide(b, a); got != want {
		t.Errorf("QueryDecide(%v, %v) is %t", b, a, got)
	}
}

func chanceIs(t *testing.T, kind int, l []int, want int) {
	t.Helper()
	if got := impl.QueryChance(kind, l); got != want {
		t.Errorf("QueryChance(%d, %v) is %d, not %d", kind, l, got, want)
	}
}

// Chapter 13
func TestQueryLenIsThatOfTheDocument(t *testing.T) {
	if impl.QueryLen != 4 {
		t.Errorf("QueryLen is %d", impl.QueryLen)
	}
}

// P46
func TestQueryMayOfEachPoint(t *testing.T) {
	for kind, first := range firstPoints() {
		for at := -1000; at <= 1000; at++ {
			if got, want := impl.QueryMay(kind, at), first <= at && at <= 30; got != want {
				t.Errorf("QueryMay(%d, %d) is %t", kind, at, got)
			}
		}
		for _, at := range noPoints(kind) {
			if impl.QueryMay(kind, at) {
				t.Errorf("QueryMay(%d, %d) is true", kind, at)
			}
		}
	}
}

// P46: as the document names them.
func TestQueryMayAtTheEnds(t *testing.T) {
	for kind, many := range lengths() {
		for at, want := range map[int]bool{
			-1: false, 0: false, many: false, many + 1: true, impl.FieldSize - 1: true, impl.FieldSize: false,
		} {
			if got := impl.QueryMay(kind, at); got != want {
				t.Errorf("QueryMay(%d, %d) is %t", kind, at, got)
			}
		}
	}
}

// P46
func TestQueryMayOfUnknownTypes(t *testing.T) {
	for _, kind := range noKinds() {
		for _, at := range slices.Concat(elements(), notElements()) {
			if impl.QueryMay(kind, at) {
				t.Errorf("QueryMay(%d, %d) is true", kind, at)
			}
		}
	}
}

// Chapter 13: calculated without this program.
func TestQueryAskOfExamples(t *testing.T) {
	for _, c := range []struct {
		kind  int
		l     []int
		first bool
		at    int
		w     int
		want  []int
	}{
		{1, []int{1, 3, 4, 12, 11, 8}, true, 5, 7, []int{24, 15, 19, 0}},
		{1, []int{1, 3, 4, 12, 11, 8}, true, 2, 0, []int{30, 27, 4, 0}},
		{1, []int{1, 3, 4, 12, 11, 8}, false, 2, 0, []int{30, 29, 4, 0}},
		{1, []int{1, 3, 4, 12, 11, 8}, true, 30, 30, []int{5, 8, 9, 0}},
		{1, []int{1, 3, 4, 12, 11, 8}, false, 30, 30, []int{5, 7, 9, 0}},
		{1, []int{0, 0, 0, 0, 0, 0}, true, 17, 1, []int{0, 14, 0, 0}},
		{1, []int{30, 30, 30, 30, 30, 30}, false, 9, 2, []int{30, 30, 2, 28}},
		{1, []int{2, 0, 1, 0, 2, 0}, true, 3, 7, []int{6, 1, 6, 2}},
		{2, []int{1, 2, 3, 4, 5, 6, 7, 8, 9, 10, 11, 12, 13, 14, 15}, true, 5, 0, []int{10, 11, 10, 6}},
		{2, []int{1, 2, 3, 4, 5, 6, 7, 8, 9, 10, 11, 12, 13, 14, 15}, true, 30, 30, []int{24, 2, 11, 30}},
		{2, []int{1, 2, 3, 4, 5, 6, 7, 8, 9, 10, 11, 12, 13, 14, 15}, false, 30, 30, []int{24, 29, 11, 0}},
		{2, []int{1, 2, 3, 4, 5, 6, 7, 8, 9, 10, 11, 12, 13, 14, 15}, false, 9, 2, []int{18, 26, 13, 13}},
		{2, []int{1, 2, 3, 4, 5, 6, 7, 8, 9, 10, 11, 12, 13, 14, 15}, true, 6, 7, []int{0, 9, 12, 15}},
		{2, []int{0, 0, 0, 0, 0, 0, 0, 0, 0, 0, 0, 0, 0, 0, 0}, true, 17, 1, []int{0, 21, 0, 30}},
		{2, []int{30, 30, 30, 30, 30, 30, 30, 30, 30, 30, 30, 30, 30, 30, 30}, true, 30, 30, []int{30, 3, 30, 10}},
		{2, []int{0, 0, 1, 0, 5, 17, 23, 29, 14, 13, 27, 15, 14, 2, 18}, true, 30, 30, []int{20, 22, 6, 0}},
		{2, []int{0, 0, 1, 0, 5, 17, 23, 29, 14, 13, 27, 15, 14, 2, 18}, false, 30, 30, []int{20, 18, 6, 1}},
		{2, []int{1, 1, 0, 0, 2, 3, 6, 12, 13, 9, 29, 13, 25, 26, 22}, true, 6, 7, []int{0, 9, 0, 14}},
		{3, []int{30, 29, 28, 27, 26, 25, 24, 23, 22, 21, 20, 19}, true, 4, 0, []int{0, 30, 22, 30}},
		{3, []int{30, 29, 28, 27, 26, 25, 24, 23, 22, 21, 20, 19}, false, 4, 0, []int{0, 1, 22, 30}},
		{3, []int{30, 29, 28, 27, 26, 25, 24, 23, 22, 21, 20, 19}, true, 5, 7, []int{11, 10, 2, 15}},
		{3, []int{0, 0, 0, 0, 0, 0, 0, 0, 0, 0, 0, 0}, true, 30, 30, []int{0, 3, 0, 0}},
		{3, []int{1, 0, 1, 5, 17, 23, 16, 22, 4, 21, 29, 9}, true, 17, 1, []int{6, 10, 29, 0}},
		{3, []int{2, 3, 4, 6, 9, 23, 4, 6, 3, 3, 16, 9}, false, 9, 2, []int{9, 27, 9, 0}},
		{3, []int{2, 3, 4, 6, 9, 23, 4, 6, 3, 3, 16, 9}, true, 30, 30, []int{20, 4, 18, 8}},
	} {
		if got := ask(t, c.kind, c.l, c.first, c.at, c.w); !slices.Equal(got, c.want) {
			t.Errorf("QueryAsk(%d, %v, %t, %d, %d) is %v, not %v", c.kind, c.l, c.first, c.at, c.w, got, c.want)
		}
	}
}

// Chapter 13
func TestQueryAskOfBothCollectors(t *testing.T) {
	forLists(func(kind int, l []int) {
		for _, first := range []bool{true, false} {
			a := askingOf(kind, l, first)
			forSomeQueries(kind, func(at, w int) {
				if got, want := ask(t, kind, l, first, at, w), a.answer(at, w); !slices.Equal(got, want) {
					t.Errorf("QueryAsk(%d, %v, %t, %d, %d) is %v, not %v", kind, l, first, at, w, got, want)
				}
			})
		}
	})
}

// Chapter 13: only the first collector takes away 1, from each element of g and
// from the sum of a pick, and nothing else.
func TestWhatOnlyTheFirstCollectorTakesAway(t *testing.T) {
	forLists(func(kind int, l []int) {
		forFewQueries(kind, func(at, w int) {
			zero := 0
			for _, n := range impl.PolyLine(lengths()[kind]+1, at)[1:] {
				zero += n
			}
			less := []int{0, zero % 31, 0, 0}
			if kind == 2 {
				less[3] = w * w * w * w % 31
			}
			one, two := ask(t, kind, l, true, at, w), ask(t, kind, l, false, at, w)
			if !slices.Equal(difOf(two, one), less) {
				t.Errorf("for %v of type %d at %d with %d, the answers %v and %v do not differ by %v", l, kind, at, w, one, two, less)
			}
		})
	})
}

// P47
func TestAnswersForBothSharesAddUp(t *testing.T) {
	forLists(func(kind int, l []int) {
		a := askingOf(kind, l, true)
		for _, drawn := range splitsOf(l) {
			first, second := shares(t, l, drawn)
			forFewQueries(kind, func(at, w int) {
				one, two := ask(t, kind, first, true, at, w), ask(t, kind, second, false, at, w)
				both := ask(t, kind, l, true, at, w)
				if !slices.Equal(sumOf(one, two), both) || !slices.Equal(both, a.answer(at, w)) {
					t.Errorf("for %v and %v of type %d at %d with %d, %v and %v do not add up to %v", first, second, kind, at, w, one, two, both)
				}
				decides(t, one, two, accepts(both))
			})
		}
	})
}

// P47: for each value, with each query, on shares that the program draws.
func TestAnswersForSharesOfEachValue(t *testing.T) {
	forEncodings(func(kind, val int, _ []int) {
		v := encoding(t, kind, val)
		l := list(t, kind, v, proof(t, kind, v, impl.RandAt(val, 19), impl.RandAt(val, 20)))
		first, second := shares(t, l, vector(t, 100+val, impl.ProofLen(kind)))
		forQueries(kind, func(at, w int) {
			one, two := ask(t, kind, first, true, at, w), ask(t, kind, second, false, at, w)
			if both := ask(t, kind, l, true, at, w); !slices.Equal(sumOf(one, two), both) {
				t.Errorf("for %v and %v of type %d at %d with %d, %v and %v do not add up to %v", first, second, kind, at, w, one, two, both)
			}
			decides(t, one, two, true)
		})
	})
}

// P48
func TestAnswerForAWholeListHasTheValues(t *testing.T) {
	forLists(func(kind int, l []int) {
		v, p := parts(t, kind, l)
		f := impl.PolyThrough(slices.Concat([]int{p.U}, v))
		g := impl.PolyThrough(slices.Concat([]int{p.V}, difOf(v, slices.Repeat([]int{1}, len(v)))))
		forFewQueries(kind, func(at, w int) {
			want := []int{impl.PolyAt(f, at), impl.PolyAt(g, at), impl.PolyAt(p.H, at), 0}
			power, sum := 1, 30
			for i, n := range v {
				want[3] = impl.FieldSum(want[3], impl.FieldMul(power, impl.PolyAt(p.H, i+1)))
				power = impl.FieldMul(power, w)
				sum = impl.FieldSum(sum, n)
			}
			if kind == impl.KindPick {
				want[3] = impl.FieldSum(want[3], impl.FieldMul(power, sum))
			}
			if got := ask(t, kind, l, true, at, w); !slices.Equal(got, want) {
				t.Errorf("QueryAsk(%d, %v, true, %d, %d) is %v, not %v", kind, l, at, w, got, want)
			}
		})
	})
}

// P49: also of vectors that are not encodings.
func TestLastElementOfAnAnswerIsTypeCheck(t *testing.T) {
	for kind := range lengths() {
		for _, v := range someFitting(kind) {
			for _, drawn := range drawnPairs() {
				l := list(t, kind, v, proof(t, kind, v, drawn[0], drawn[1]))
				at := somePoints(kind)[drawn[0]%6]
				for w := range impl.FieldSize {
					if got, want := ask(t, kind, l, true, at, w)[3], impl.TypeCheck(kind, v, w); got != want || want != checkOf(kind, v, w) {
						t.Errorf("the last element of QueryAsk(%d, %v, true, %d, %d) is %d, but TypeCheck is %d", kind, l, at, w, got, want)
					}
				}
			}
		}
	}
}

// P50
func TestOnePairGivesEachTwoElements(t *testing.T) {
	forEncodings(func(kind, val int, v []int) {
		at := points(kind)
		times := make([][31][31]int, len(at))
		forPairs(func(u, w int) {
			l := list(t, kind, v, proof(t, kind, v, u, w))
			for i := range at {
				q := ask(t, kind, l, true, at[i], val)
				times[i][q[0]][q[1]]++
			}
		})
		for i := range at {
			forPairs(func(a, b int) {
				if times[i][a][b] != 1 {
					t.Errorf("%d pairs give %d and %d at %d for %v of type %d", times[i][a][b], a, b, at[i], v, kind)
				}
			})
		}
	})
}

// P51
func TestAnswerForACorrectProof(t *testing.T) {
	forCorrect(func(kind int, v []int, p impl.Proof) {
		l := list(t, kind, v, p)
		forSomeQueries(kind, func(at, w int) {
			q := ask(t, kind, l, true, at, w)
			if impl.FieldMul(q[0], q[1]) != q[2] || q[3] != 0 {
				t.Errorf("QueryAsk(%d, %v, true, %d, %d) is %v", kind, l, at, w, q)
			}
		})
	})
}

// Chapter 13, P46
func TestQueryAskAtOtherPoints(t *testing.T) {
	for kind := range lengths() {
		for _, l := range listsOf(kind)[:20] {
			for _, at := range noPoints(kind) {
				for _, w := range []int{0, 1, 7, last, -1, impl.FieldSize} {
					askFails(t, kind, l, at, w)
				}
			}
		}
	}
}

// Chapter 13
func TestQueryAskOfInvalidRandomElements(t *testing.T) {
	for kind := range lengths() {
		for _, l := range listsOf(kind)[:20] {
			for _, w := range slices.Concat(notElements(), outside(last)) {
				for _, at := range somePoints(kind) {
					askFails(t, kind, l, at, w)
				}
			}
		}
	}
}

// invalidLists has lists that do not consist of ProofLen elements: some of all
// other lengths, and some with one number or all numbers that are no elements.
func invalidLists(kind int) [][]int {
	many := listLengths()[kind]
	bad := [][]int{nil, {}}
	for size := range 40 {
		if size != many {
			bad = append(bad, make([]int, size), slices.Repeat([]int{1}, size))
		}
	}
	for _, l := range [][]int{make([]int, many), elements()[:many], listsOf(kind)[len(listsOf(kind))-1]} {
		bad = append(bad, l[:many-1], l[1:], slices.Concat(l, []int{0}), slices.Concat([]int{0}, l), slices.Concat(l, l))
		for place, e := range l {
			for _, n := range append(notElements(), e+31, e-31) {
				bad = append(bad, replaced(l, place, n))
			}
		}
	}
	for _, n := range notElements() {
		bad = append(bad, slices.Repeat([]int{n}, many), slices.Repeat([]int{n}, many-1), slices.Repeat([]int{n}, many+1))
	}
	return bad
}

// Chapter 13: also with an invalid point or random element besides.
func TestQueryAskOfInvalidLists(t *testing.T) {
	for kind, first := range firstPoints() {
		for _, l := range invalidLists(kind) {
			for _, at := range []int{first, 9, last, 0, first - 1, -1, impl.FieldSize} {
				for _, w := range []int{0, 1, last, -1, impl.FieldSize} {
					askFails(t, kind, l, at, w)
				}
			}
		}
	}
}

// Chapter 13
func TestQueryAskOfAListOfAnotherType(t *testing.T) {
	forLists(func(kind int, l []int) {
		for other := range lengths() {
			if other != kind {
				askFails(t, other, l, 9, 7)
				askFails(t, other, l, last, 0)
			}
		}
	})
}

// Chapter 13: with a TypeLen of 0, every list would be empty and 1 a point.
func TestQueryAskOfUnknownTypes(t *testing.T) {
	for _, kind := range noKinds() {
		lists := [][]int{nil, {}, {0}, {0, 0, 0}, {-1}}
		for known := range lengths() {
			lists = append(lists, listsOf(known)[0], listsOf(known)[3])
		}
		for _, l := range lists {
			for _, at := range []int{0, 1, 2, 5, 9, last, -1, impl.FieldSize} {
				for _, w := range []int{0, 7, last, -1, impl.FieldSize} {
					askFails(t, kind, l, at, w)
				}
			}
		}
	}
}

// Chapter 13: the smallest and the largest numbers, in several places at once.
func TestQueryAskOfInvalidArgumentsTogether(t *testing.T) {
	for _, kind := range []int{1, 2, 3, 0, 4} {
		many := max(listLengths()[kind], 6)
		for _, n := range notElements() {
			for _, m := range notElements() {
				askFails(t, kind, slices.Repeat([]int{n}, many), m, m)
				askFails(t, kind, make([]int, many), n, m)
				askFails(t, kind, replaced(make([]int, many), many-1, n), 9, m)
				askFails(t, n, slices.Repeat([]int{m}, many), n, m)
			}
		}
	}
}

// P52
func TestQueryDecideOfEveryAnswerAsAWhole(t *testing.T) {
	zero := make([]int, impl.QueryLen)
	forTriples(func(a, b, c int) {
		for _, n := range []int{0, 1, 15, last} {
			decides(t, []int{a, b, c, n}, zero, a*b%31 == c && n == 0)
		}
	})
	for n := range impl.FieldSize {
		decides(t, []int{3, 4, 12, n}, zero, n == 0)
	}
}

// P52, P59: both answers are drawn, so that none of them says anything alone.
func TestQueryDecideOfTwoAnswers(t *testing.T) {
	d := draw(52)
	forPairs(func(a, b int) {
		for _, both := range [][]int{{a, b, a * b % 31, 0}, {a, b, (a*b + 1) % 31, 0}, {a, b, a * b % 31, 1 + d.element()%last}, d.poly(4)} {
			for range 3 {
				second := d.poly(4)
				decides(t, difOf(both, second), second, accepts(both))
			}
		}
	})
}

// P52: what one answer alone says does not count.
func TestQueryDecideOfTheSumAlone(t *testing.T) {
	for _, c := range []struct {
		a    []int
		b    []int
		want bool
	}{
		{[]int{0, 0, 0, 0}, []int{0, 0, 0, 0}, true},
		{[]int{2, 3, 6, 0}, []int{0, 0, 0, 0}, true},
		{[]int{2, 3, 6, 0}, []int{4, 5, 20, 0}, false},
		{[]int{2, 3, 7, 1}, []int{4, 5, 10, 30}, true},
		{[]int{2, 3, 7, 1}, []int{4, 5, 9, 30}, false},
		{[]int{2, 3, 7, 1}, []int{4, 5, 10, 29}, false},
		{[]int{2, 3, 7, 1}, []int{4, 5, 10, 0}, false},
		{[]int{2, 3, 30, 1}, []int{4, 5, 18, 30}, true},
		{[]int{30, 30, 1, 0}, []int{0, 0, 0, 0}, true},
		{[]int{30, 30, 1, 0}, []int{30, 30, 1, 0}, false},
		{[]int{30, 30, 30, 16}, []int{30, 30, 5, 15}, true},
		{[]int{30, 30, 30, 30}, []int{30, 30, 30, 30}, false},
		{[]int{0, 0, 5, 0}, []int{0, 0, 26, 0}, true},
		{[]int{0, 9, 0, 3}, []int{0, 9, 0, 28}, true},
	} {
		decides(t, c.a, c.b, c.want)
	}
}

// P52: zeros would be accepted, if only they were as many.
func TestQueryDecideOfAnswersOfOtherLengths(t *testing.T) {
	for one := range 40 {
		for two := range 40 {
			decides(t, make([]int, one), make([]int, two), one == 4 && two == 4)
		}
	}
	good := []int{3, 4, 12, 0}
	for _, other := range [][]int{nil, {}, {0, 0, 0}, {0, 0, 0, 0, 0}, make([]int, 1000)} {
		decides(t, good, other, false)
		decides(t, make([]int, 4), other, false)
		decides(t, other, other, false)
	}
	decides(t, good[:3], make([]int, 4), false)
	decides(t, slices.Concat(good, []int{0}), make([]int, 4), false)
	decides(t, slices.Concat(good, []int{0}), make([]int, 5), false)
	decides(t, slices.Concat([]int{0}, good), make([]int, 4), false)
	decides(t, nil, nil, false)
	decides(t, nil, []int{}, false)
}

// P52: what is beyond the length of an answer is none of its elements.
func TestQueryDecideCountsOnlyTheLength(t *testing.T) {
	long := []int{3, 4, 12, 0, 7, 7}
	decides(t, long[:4], make([]int, 4, 9), true)
	decides(t, long[:3], make([]int, 4), false)
	decides(t, long[:5], make([]int, 5), false)
}

// P52: some of these add up to elements, even to answers that are accepted.
func TestQueryDecideOfInvalidElements(t *testing.T) {
	bad := slices.Concat(notElements(), outside(last))
	for _, good := range [][]int{{0, 0, 0, 0}, {3, 4, 12, 0}, {30, 30, 1, 0}} {
		for place, e := range good {
			for _, n := range append(slices.Clone(bad), e+31, e-31) {
				one := replaced(good, place, n)
				for _, m := range []int{0, 1, last} {
					decides(t, one, replaced(make([]int, 4), place, m), false)
				}
				decides(t, one, replaced(make([]int, 4), place, e-n), false)
				decides(t, one, one, false)
				for _, m := range notElements() {
					for other := range good {
						decides(t, one, replaced(make([]int, 4), other, m), false)
					}
				}
			}
		}
	}
	for _, n := range bad {
		all := slices.Repeat([]int{n}, 4)
		decides(t, all, all, false)
		decides(t, all, make([]int, 4), false)
		decides(t, all, slices.Repeat([]int{-n}, 4), false)
		decides(t, all[:3], all, false)
		decides(t, all, nil, false)
	}
}

// P53
func TestQueryChanceOfEncodingsWithTheirProofs(t *testing.T) {
	forCorrect(func(kind int, v []int, p impl.Proof) {
		chanceIs(t, kind, listOf(v, p), allQueries()[kind])
		chanceIs(t, kind, list(t, kind, v, proof(t, kind, v, p.U, p.V)), allQueries()[kind])
	})
	for _, v := range encodings()[1] {
		forPairs(func(u, w int) { chanceIs(t, 1, listOf(v, proofOf(v, u, w)), 899) })
	}
}

// Chapter 13, P53, P54: calculated without this program.
func TestQueryChanceOfExamples(t *testing.T) {
	for _, c := range []struct {
		kind int
		l    []int
		want int
	}{
		{1, []int{1, 3, 4, 12, 11, 8}, 899}, {1, []int{0, 0, 0, 0, 0, 0}, 899}, {1, []int{30, 30, 30, 30, 30, 30}, 0}, {1, []int{2, 0, 1, 0, 2, 0}, 0},
		{2, []int{1, 2, 3, 4, 5, 6, 7, 8, 9, 10, 11, 12, 13, 14, 15}, 1}, {2, make([]int, 15), 26}, {2, slices.Repeat([]int{30}, 15), 0},
		{2, []int{0, 0, 1, 0, 5, 17, 23, 29, 14, 13, 27, 15, 14, 2, 18}, 806}, {2, []int{1, 1, 0, 0, 2, 3, 6, 12, 13, 9, 29, 13, 25, 26, 22}, 26},
		{3, []int{30, 29, 28, 27, 26, 25, 24, 23, 22, 21, 20, 19}, 0}, {3, make([]int, 12), 837}, {3, slices.Repeat([]int{30}, 12), 4},
		{3, []int{1, 0, 1, 5, 17, 23, 16, 22, 4, 21, 29, 9}, 837}, {3, []int{2, 3, 4, 6, 9, 23, 4, 6, 3, 3, 16, 9}, 54},
	} {
		chanceIs(t, c.kind, c.l, c.want)
	}
}

// chanceIsBounded compares with the exact number, and that with the bound.
func chanceIsBounded(t *testing.T, kind int, l []int) {
	t.Helper()
	want := chanceOf(kind, l)
	chanceIs(t, kind, l, want)
	if proves(kind, l) {
		if want != allQueries()[kind] {
			t.Errorf("%v of type %d is accepted only for %d queries", l, kind, want)
		}
	} else if want > impl.QueryBound(kind) {
		t.Errorf("%v of type %d is accepted for %d queries", l, kind, want)
	}
}

// P54
func TestQueryChanceOfOtherLists(t *testing.T) {
	forLists(func(kind int, l []int) { chanceIsBounded(t, kind, l) })
}

// P54: with a proof of its own, and with that of an encoding.
func TestQueryChanceOfVectorsThatAreNoEncodings(t *testing.T) {
	for kind := range lengths() {
		for _, v := range someFitting(kind) {
			for _, drawn := range [][2]int{{0, 0}, {5, 17}, {last, 1}} {
				chanceIsBounded(t, kind, listOf(v, proofOf(v, drawn[0], drawn[1])))
				for _, e := range encodings()[kind] {
					chanceIsBounded(t, kind, listOf(v, proofOf(e, drawn[0], drawn[1])))
				}
			}
		}
	}
	for n := range impl.FieldSize {
		chanceIsBounded(t, 1, listOf([]int{n}, proofOf([]int{n}, 5, 17)))
	}
}

// P54
func TestQueryChanceWithAChangedElement(t *testing.T) {
	forCorrect(func(kind int, v []int, p impl.Proof) {
		l := listOf(v, p)
		for place, n := range l {
			chanceIsBounded(t, kind, replaced(l, place, (n+1)%31))
			chanceIsBounded(t, kind, replaced(l, place, (n+30)%31))
		}
	})
}

// P54: H is wrong, but has the right values at as many points as it can.
func TestQueryChanceOfPolynomialsThatAreSeldomWrong(t *testing.T) {
	forEncodings(func(kind, _ int, v []int) {
		p, many := proofOf(v, 5, 17), len(v)
		for _, from := range []int{many + 1, 9, last + 1 - 2*many} {
			// Right at all points of the vector, so that no w finds it out.
			hidden := zeroAt(slices.Concat(elements()[1:many+1], elements()[from:from+many]))
			chanceIs(t, kind, listOf(v, withH(p, sumOf(p.H, hidden))), many*impl.FieldSize)
			// Right at more query points, so that most w find it out.
			chanceIsBounded(t, kind, listOf(v, withH(p, sumOf(p.H, zeroAt(elements()[from:from+2*many])))))
		}
	})
}

// reaching has lists that are accepted for as many queries as the bound says: H
// is 0 at each point of a vector that is no encoding, so that no w finds it out,
// and right at as many query points as it can.
func reaching(kind int) [][]int {
	var lists [][]int
	many := lengths()[kind]
	for from := firstPoints()[kind]; from+2*many <= impl.FieldSize; from++ {
		for scale := 1; scale <= last; scale++ {
			more := timesOf([]int{scale}, zeroAt(elements()[from:from+2*many]))
			forHidden(more, many, func(v []int) {
				// The check of a pick finds out another sum than 1.
				if kind == 2 && (v[0]+v[1]+v[2]+v[3])%31 != 1 {
					return
				}
				p := proofOf(v, 5, 17)
				lists = append(lists, listOf(v, withH(p, sumOf(p.H, more))))
			})
		}
	}
	return lists
}

// forHidden has each vector whose products of an element and the element minus
// 1 all become 0 when the values of a polynomial at 1, 2, and so on are added.
func forHidden(more []int, many int, check func(v []int)) {
	choices := make([][]int, many)
	for i := range choices {
		for n := range impl.FieldSize {
			if (n*(n+30)+valueOf(more, i+1))%31 == 0 {
				choices[i] = append(choices[i], n)
			}
		}
		if len(choices[i]) != 2 {
			return
		}
	}
	forTuples(many, []int{0, 1}, func(which []int) {
		v := make([]int, many)
		for i := range v {
			v[i] = choices[i][which[i]]
		}
		check(v)
	})
}

// P54: no smaller bound would do.
func TestQueryChanceReachesTheBound(t *testing.T) {
	for kind, bound := range bounds() {
		lists := reaching(kind)
		if len(lists) == 0 {
			t.Errorf("no list of type %d reaches the bound", kind)
		}
		for _, l := range lists {
			if proves(kind, l) {
				t.Errorf("%v of type %d has a correct proof", l, kind)
			}
			chanceIs(t, kind, l, bound)
		}
	}
}

// P54
func TestQueryChanceOfInvalidLists(t *testing.T) {
	for kind := range lengths() {
		for _, l := range invalidLists(kind) {
			chanceIs(t, kind, l, -1)
		}
	}
	forLists(func(kind int, l []int) {
		for other := range lengths() {
			if other != kind {
				chanceIs(t, other, l, -1)
			}
		}
	})
}

// P54
func TestQueryChanceOfUnknownTypes(t *testing.T) {
	for _, kind := range noKinds() {
		for _, l := range [][]int{nil, {}, {0}, {0, 0, 0}, {-1}} {
			chanceIs(t, kind, l, -1)
		}
		for known := range lengths() {
			chanceIs(t, kind, listsOf(known)[0], -1)
			for _, l := range invalidLists(known) {
				chanceIs(t, kind, l, -1)
			}
		}
	}
}

// P55
func TestQueryChanceCountsWhatQueryDecideAccepts(t *testing.T) {
	zero := make([]int, impl.QueryLen)
	for kind := range lengths() {
		lists := listsOf(kind)
		lists = append(lists[:40], lists[len(lists)-10:]...)
		for _, v := range someFitting(kind)[:20] {
			lists = append(lists, listOf(v, proofOf(v, 5, 17)))
		}
		for _, l := range lists {
			want := 0
			forQueries(kind, func(at, w int) {
				if impl.QueryDecide(ask(t, kind, l, true, at, w), zero) {
					want++
				}
			})
			chanceIs(t, kind, l, want)
		}
	}
}

// P54, P56
func TestQueryBoundOfEachType(t *testing.T) {
	for kind, want := range bounds() {
		got := impl.QueryBound(kind)
		if got != want || got != 2*impl.TypeLen(kind)*impl.FieldSize {
			t.Errorf("QueryBound(%d) is %d, not %d", kind, got, want)
		}
		if got >= allQueries()[kind] {
			t.Errorf("QueryBound(%d) is %d, but there are %d queries", kind, got, allQueries()[kind])
		}
	}
}

// P56
func TestQueryBoundOfUnknownTypes(t *testing.T) {
	for _, kind := range noKinds() {
		if got := impl.QueryBound(kind); got != 0 {
			t.Errorf("QueryBound(%d) is %d", kind, got)
		}
	}
}

// P57
func TestAnswerForTheSumOfTwoLists(t *testing.T) {
	for kind := range lengths() {
		lists := listsOf(kind)
		lists = append(lists[:25], lists[len(lists)-25:]...)
		for _, l := range lists {
			for _, m := range lists {
				both := sum(t, l, m)
				for i, at := range somePoints(kind) {
					w := []int{0, 1, 2, 7, 17, last}[i]
					one, two := ask(t, kind, l, false, at, w), ask(t, kind, m, false, at, w)
					if got := ask(t, kind, both, false, at, w); !slices.Equal(got, sumOf(one, two)) {
						t.Errorf("QueryAsk(%d, %v, false, %d, %d) is %v, not the sum of %v and %v", kind, both, at, w, got, one, two)
					}
				}
			}
		}
	}
}

// P58: the first collector's is not zero, as it takes something away.
func TestAnswerForTheZeroList(t *testing.T) {
	for kind, many := range listLengths() {
		zero := make([]int, many)
		a := askingOf(kind, zero, true)
		forQueries(kind, func(at, w int) {
			if got := ask(t, kind, zero, false, at, w); !slices.Equal(got, []int{0, 0, 0, 0}) {
				t.Errorf("QueryAsk(%d, %v, false, %d, %d) is %v", kind, zero, at, w, got)
			}
			if got, want := ask(t, kind, zero, true, at, w), a.answer(at, w); !slices.Equal(got, want) {
				t.Errorf("QueryAsk(%d, %v, true, %d, %d) is %v, not %v", kind, zero, at, w, got, want)
			}
		})
	}
}

// P59
func TestMovingAValueBetweenAnswersKeepsTheDecision(t *testing.T) {
	d := draw(59)
	forLists(func(kind int, l []int) {
		first, second := shares(t, l, d.poly(len(l)))
		one, two := ask(t, kind, first, true, 9, 7), ask(t, kind, second, false, 9, 7)
		want := impl.QueryDecide(one, two)
		for place := range one {
			for value := range impl.FieldSize {
				n := replaced(make([]int, 4), place, value)
				decides(t, sum(t, one, n), difOf(two, n), want)
				decides(t, difOf(one, n), sum(t, two, n), want)
			}
		}
		for range 10 {
			n := d.poly(4)
			decides(t, sum(t, one, n), difOf(two, n), want)
		}
	})
}

// P60
func TestQueryChanceWithAChangedCoefficient(t *testing.T) {
	forEncodings(func(kind, _ int, v []int) {
		for _, drawn := range [][2]int{{0, 0}, {5, 17}} {
			p := proofOf(v, drawn[0], drawn[1])
			for place, c := range p.H {
				for n := range impl.FieldSize {
					got := impl.QueryChance(kind, listOf(v, withH(p, replaced(p.H, place, n))))
					if n == c && got != allQueries()[kind] || n != c && (got < 0 || got > bounds()[kind]) {
						t.Errorf("%v of type %d with %v and %d at %d is accepted for %d queries", v, kind, p, n, place, got)
					}
				}
			}
		}
	})
}

// querying is a function of chapter 13 with a list, or with two answers, and
// all its slices.
type querying struct {
	name string
	call func(kind int, l, m []int) []int
}

func queryings() []querying {
	asks := func(name string, first bool, at, w int) querying {
		return querying{name, func(kind int, l, _ []int) []int {
			q, _ := impl.QueryAsk(kind, l, first, at, w)
			return q
		}}
	}
	return []querying{
		asks("QueryAsk of the first collector", true, 9, 7),
		asks("QueryAsk of the second collector", false, last, 0),
		asks("QueryAsk at no query point", true, 0, 7),
		asks("QueryAsk with an invalid random element", false, 9, impl.FieldSize),
		{"QueryDecide", func(_ int, l, m []int) []int {
			impl.QueryDecide(l, m)
			return nil
		}},
		{"QueryChance", func(kind int, l, _ []int) []int {
			impl.QueryChance(kind, l)
			return nil
		}},
	}
}

// forQueryings has each function with valid lists and answers, and with ones
// that are not.
func forQueryings(check func(f querying, kind int, l, m []int)) {
	answers := [][]int{nil, {0, 0, 0}, {3, 4, 12, 0}, {0, 0, 0, 31}, {1, 2, 3, 4, 5}}
	for _, f := range queryings() {
		for kind := range lengths() {
			for _, l := range slices.Concat(listsOf(kind)[:30], invalidLists(kind)) {
				check(f, kind, l, l)
			}
			check(f, 0, nil, nil)
			check(f, 4, listsOf(kind)[0], listsOf(kind)[1])
		}
		for _, l := range answers {
			for _, m := range answers {
				check(f, 1, l, m)
			}
		}
	}
}

// General rules: an argument keeps its elements and those beyond its length,
// and no result has memory of an argument.
func TestQueryFunctionsChangeNoArgument(t *testing.T) {
	forQueryings(func(f querying, kind int, l, m []int) {
		one, two := withSpare(l), withSpare(m)
		beforeOne, beforeTwo := slices.Clone(whole(one)), slices.Clone(whole(two))
		result := f.call(kind, one, two)
		if !slices.Equal(whole(one), beforeOne) || !slices.Equal(whole(two), beforeTwo) {
			t.Fatalf("%s of %v and %v of type %d changes an argument", f.name, l, m, kind)
		}
		overwrite(result)
		if !slices.Equal(whole(one), beforeOne) || !slices.Equal(whole(two), beforeTwo) {
			t.Fatalf("a result of %s of %v of type %d shares memory with it", f.name, l, kind)
		}
	})
}

// General rules: also beyond their lengths, and if the call fails.
func TestAnswersShareNoMemory(t *testing.T) {
	forQueryings(func(f querying, kind int, l, m []int) {
		first := f.call(kind, l, m)
		before := slices.Clone(whole(first))
		for _, other := range queryings()[:4] {
			overwrite(other.call(kind, l, m))
		}
		if !slices.Equal(whole(first), before) {
			t.Fatalf("the result of %s of %v of type %d shares memory with another", f.name, l, kind)
		}
		if again := f.call(kind, l, m); !slices.Equal(again, before[:len(first)]) {
			t.Fatalf("%s of %v of type %d was %v and is %v", f.name, l, kind, before[:len(first)], again)
		}
	})
}

// General rules: no list or answer is kept to tell it by.
func TestQueryFunctionsReadTheirArgumentsAnew(t *testing.T) {
	l, a, zero := make([]int, 12), make([]int, 4), make([]int, 4)
	for range 2 {
		for _, v := range encodings()[3] {
			copy(l, listOf(v, proofOf(v, 5, 17)))
			copy(a, askingOf(3, l, true).answer(9, 7))
			if got := ask(t, 3, l, true, 9, 7); !slices.Equal(got, a) {
				t.Errorf("QueryAsk(3, %v, true, 9, 7) is %v, not %v", l, got, a)
			}
			chanceIs(t, 3, l, 837)
			decides(t, a, zero, true)
			l[11], a[3] = (l[11]+1)%31, 1
			chanceIs(t, 3, l, chanceOf(3, l))
			decides(t, a, zero, false)
			l[0], a[0] = 31, -1
			chanceIs(t, 3, l, -1)
			decides(t, a, zero, false)
			askFails(t, 3, l, 9, 7)
		}
	}
}

// General rules: a goroutine that is still at work after the call would use
// the list that is overwritten here.
func TestQueryFunctionsAreDoneWhenTheyReturn(t *testing.T) {
	for range 3 {
		forCorrect(func(kind int, v []int, p impl.Proof) {
			l := listOf(v, p)
			chanceIs(t, kind, l, allQueries()[kind])
			overwrite(l)
			chanceIs(t, kind, l, -1)
		})
	}
}

// A goroutine that waits for its answers to be received would stay forever.
func TestQueryChanceLeavesNoGoroutine(t *testing.T) {
	before := runtime.NumGoroutine()
	for kind := range lengths() {
		for _, l := range slices.Concat(listsOf(kind), invalidLists(kind)) {
			impl.QueryChance(kind, l)
			impl.QueryAsk(kind, l, true, 9, 7)
			impl.QueryDecide(l, l)
		}
	}
	// The last one may still be about to end when the call returns.
	for range 1000 {
		if runtime.NumGoroutine() <= before {
			return
		}
		time.Sleep(time.Millisecond)
	}
	t.Errorf("there were %d goroutines and are %d", before, runtime.NumGoroutine())
}

// General rules: calls at the same time keep no state.
func TestQueryFunctionsAtTheSameTime(t *testing.T) {
	var callers sync.WaitGroup
	for range 8 {
		callers.Go(func() {
			zero := make([]int, impl.QueryLen)
			forCorrect(func(kind int, v []int, p impl.Proof) {
				l := listOf(v, p)
				want := askingOf(kind, l, true).answer(9, 7)
				got, ok := impl.QueryAsk(kind, l, true, 9, 7)
				if !ok || !slices.Equal(got, want) || !impl.QueryDecide(got, zero) || impl.QueryChance(kind, l) != allQueries()[kind] {
					t.Errorf("QueryAsk(%d, %v, true, 9, 7) is %v, %t, not %v", kind, l, got, ok, want)
				}
			})
		})
	}
	callers.Wait()
}

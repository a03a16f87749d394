package tests

import (
	"slices"
	"sync"
	"testing"

	"loop.example/scrutineer/impl"
)

// vectorsOf has vectors of one length that are likely to be treated wrongly
// (the least and the greatest elements, all different ones) and drawn ones.
func vectorsOf(many int) [][]int {
	d := draw(many + 1)
	rising := make([]int, many)
	for i := range rising {
		rising[i] = i
	}
	vectors := [][]int{make([]int, many), slices.Repeat([]int{1}, many), slices.Repeat([]int{last}, many), rising}
	for range 4 {
		vectors = append(vectors, d.poly(many))
	}
	return vectors
}

// someVectors has vectors of each length, from none to ShareMax elements.
func someVectors() [][]int {
	vectors := [][]int{nil}
	for many := range impl.ShareMax + 1 {
		vectors = append(vectors, vectorsOf(many)...)
	}
	return vectors
}

// forVectorPairs has two vectors of the same length, for each length.
func forVectorPairs(check func(a, b []int)) {
	check(nil, nil)
	check(nil, []int{})
	check([]int{}, nil)
	forPairs(func(a, b int) { check([]int{a}, []int{b}) })
	for many := range impl.ShareMax + 1 {
		for _, a := range vectorsOf(many) {
			for _, b := range vectorsOf(many) {
				check(a, b)
			}
		}
	}
}

// tooLong has slices of elements that are too many for a vector.
func tooLong() [][]int {
	var bad [][]int
	for _, many := range []int{impl.ShareMax + 1, impl.ShareMax + 2, 2 * impl.ShareMax, 1000} {
		bad = append(bad, make([]int, many), slices.Repeat([]int{1}, many), slices.Repeat([]int{last}, many))
	}
	return bad
}

// notVectors has slices that are too long, and, at each place of each length,
// each number that is no element.
func notVectors() [][]int {
	bad := tooLong()
	for many := 1; many <= impl.ShareMax; many++ {
		for i := range many {
			for _, n := range notElements() {
				v := slices.Repeat([]int{1}, many)
				v[i] = n
				bad = append(bad, v)
			}
		}
	}
	return bad
}

// sharing is a function of chapter 3 with two vectors, and all its slices.
type sharing struct {
	name string
	call func(a, b []int) ([][]int, bool)
}

func sharings() []sharing {
	one := func(name string, f func(a, b []int) ([]int, bool)) sharing {
		return sharing{name, func(a, b []int) ([][]int, bool) {
			v, ok := f(a, b)
			return [][]int{v}, ok
		}}
	}
	return []sharing{
		{"ShareMake", func(a, b []int) ([][]int, bool) {
			first, second, ok := impl.ShareMake(a, b)
			return [][]int{first, second}, ok
		}},
		one("ShareBack", impl.ShareBack),
		one("ShareDrawn", impl.ShareDrawn),
		one("ShareSum", impl.ShareSum),
	}
}

// fails checks that every function fails for a and b, with nothing but false.
func fails(t *testing.T, a, b []int) {
	t.Helper()
	for _, s := range sharings() {
		results, ok := s.call(a, b)
		if ok {
			t.Errorf("%s(%v, %v) is true", s.name, a, b)
		}
		for _, v := range results {
			if len(v) != 0 {
				t.Errorf("%s(%v, %v) fails with %v", s.name, a, b, results)
			}
		}
	}
}

func shares(t *testing.T, v, drawn []int) ([]int, []int) {
	t.Helper()
	first, second, ok := impl.ShareMake(v, drawn)
	if !ok {
		t.Fatalf("ShareMake(%v, %v) fails", v, drawn)
	}
	return first, second
}

func back(t *testing.T, a, b []int) []int {
	t.Helper()
	v, ok := impl.ShareBack(a, b)
	if !ok {
		t.Fatalf("ShareBack(%v, %v) fails", a, b)
	}
	return v
}

func drawnFor(t *testing.T, v, a []int) []int {
	t.Helper()
	drawn, ok := impl.ShareDrawn(v, a)
	if !ok {
		t.Fatalf("ShareDrawn(%v, %v) fails", v, a)
	}
	return drawn
}

func sum(t *testing.T, a, b []int) []int {
	t.Helper()
	v, ok := impl.ShareSum(a, b)
	if !ok {
		t.Fatalf("ShareSum(%v, %v) fails", a, b)
	}
	return v
}

// sumOf and difOf are in whole numbers, reduced once at the end.
func sumOf(a, b []int) []int {
	v := make([]int, len(a))
	for i := range a {
		v[i] = (a[i] + b[i]) % 31
	}
	return v
}

func difOf(a, b []int) []int {
	v := make([]int, len(a))
	for i := range a {
		v[i] = (a[i] + 31 - b[i]) % 31
	}
	return v
}

// Chapter 3
func TestShareMaxIsThatOfTheDocument(t *testing.T) {
	if impl.ShareMax != 20 {
		t.Errorf("ShareMax is %d", impl.ShareMax)
	}
}

// P21
func TestShareOkOfVectors(t *testing.T) {
	for _, v := range append(someVectors(), []int{}) {
		if !impl.ShareOk(v) {
			t.Errorf("ShareOk(%v) is false", v)
		}
	}
	for n := range impl.FieldSize {
		if !impl.ShareOk([]int{n}) || !impl.ShareOk(slices.Repeat([]int{n}, impl.ShareMax)) {
			t.Errorf("ShareOk is false for %d", n)
		}
	}
}

// P21
func TestShareOkWithoutTheLastElement(t *testing.T) {
	for _, v := range someVectors() {
		for len(v) > 0 {
			v = v[:len(v)-1]
			if !impl.ShareOk(v) {
				t.Errorf("ShareOk(%v) is false", v)
			}
		}
	}
}

// P21
func TestShareOkOfOtherSlices(t *testing.T) {
	for _, v := range notVectors() {
		if impl.ShareOk(v) {
			t.Errorf("ShareOk(%v) is true", v)
		}
	}
}

// P21
func TestShareOkCountsOnlyTheLength(t *testing.T) {
	long := append(make([]int, impl.ShareMax), -1)
	if !impl.ShareOk(long[:impl.ShareMax]) || !impl.ShareOk(long[:0]) {
		t.Error("what is beyond the length makes a vector invalid")
	}
}

// Chapter 3
func TestShareMakeOfExamples(t *testing.T) {
	for _, c := range []struct{ v, drawn, want []int }{
		{nil, nil, nil}, {[]int{}, nil, nil}, {nil, []int{}, nil},
		{[]int{5, 0}, []int{7, 3}, []int{29, 28}},
		{[]int{0}, []int{last}, []int{1}}, {[]int{last}, []int{0}, []int{last}}, {[]int{0}, []int{1}, []int{last}},
		{[]int{1, 2, 3, 4, 5, 6}, []int{6, 5, 4, 3, 2, 1}, []int{26, 28, 30, 1, 3, 5}},
	} {
		first, second := shares(t, c.v, c.drawn)
		if !slices.Equal(first, c.want) || !slices.Equal(second, c.drawn) {
			t.Errorf("ShareMake(%v, %v) is %v, %v, not %v", c.v, c.drawn, first, second, c.want)
		}
	}
}

// Chapter 3, P18
func TestShareMakeSubtractsWhatIsDrawn(t *testing.T) {
	forVectorPairs(func(v, drawn []int) {
		first, second := shares(t, v, drawn)
		if want := difOf(v, drawn); !slices.Equal(first, want) {
			t.Errorf("the first share of %v with %v is %v, not %v", v, drawn, first, want)
		}
		if !slices.Equal(second, drawn) {
			t.Errorf("the second share of %v with %v is %v", v, drawn, second)
		}
		if !impl.ShareOk(first) || !impl.ShareOk(second) {
			t.Errorf("ShareMake(%v, %v) is %v, %v, which are no vectors", v, drawn, first, second)
		}
	})
}

// P18
func TestShareBackOfSharesIsTheVector(t *testing.T) {
	forVectorPairs(func(v, drawn []int) {
		first, second := shares(t, v, drawn)
		if got := back(t, first, second); !slices.Equal(got, v) {
			t.Errorf("the shares %v and %v of %v give back %v", first, second, v, got)
		}
	})
}

// P18
func TestShareBackOfExamples(t *testing.T) {
	for _, c := range []struct{ a, b, want []int }{
		{nil, nil, nil}, {[]int{}, nil, nil}, {[]int{29, 28}, []int{7, 3}, []int{5, 0}},
		{[]int{0, last, 15, last}, []int{0, 1, 16, last}, []int{0, 0, 0, 29}},
	} {
		if got := back(t, c.a, c.b); !slices.Equal(got, c.want) {
			t.Errorf("ShareBack(%v, %v) is %v, not %v", c.a, c.b, got, c.want)
		}
	}
}

// Chapter 3, P18
func TestShareBackAndShareSumAddElementByElement(t *testing.T) {
	forVectorPairs(func(a, b []int) {
		want := sumOf(a, b)
		if got := back(t, a, b); !slices.Equal(got, want) {
			t.Errorf("ShareBack(%v, %v) is %v, not %v", a, b, got, want)
		}
		if got := sum(t, a, b); !slices.Equal(got, want) {
			t.Errorf("ShareSum(%v, %v) is %v, not %v", a, b, got, want)
		}
	})
}

// P19
func TestShareDrawnGivesTheFirstShare(t *testing.T) {
	forVectorPairs(func(v, a []int) {
		drawn := drawnFor(t, v, a)
		if want := difOf(v, a); !slices.Equal(drawn, want) {
			t.Errorf("ShareDrawn(%v, %v) is %v, not %v", v, a, drawn, want)
		}
		if first, _ := shares(t, v, drawn); !slices.Equal(first, a) {
			t.Errorf("ShareDrawn(%v, %v) is %v, which gives %v", v, a, drawn, first)
		}
	})
}

// P19
func TestShareDrawnReversesShareMake(t *testing.T) {
	forVectorPairs(func(v, drawn []int) {
		first, _ := shares(t, v, drawn)
		if got := drawnFor(t, v, first); !slices.Equal(got, drawn) {
			t.Errorf("%v was drawn for %v, but ShareDrawn gives %v", drawn, v, got)
		}
	})
}

// P19
func TestExactlyOneDrawGivesAFirstShare(t *testing.T) {
	forPairs(func(v, a int) {
		var found []int
		for drawn := range impl.FieldSize {
			if first, _ := shares(t, []int{v}, []int{drawn}); first[0] == a {
				found = append(found, drawn)
			}
		}
		if want := drawnFor(t, []int{v}, []int{a}); !slices.Equal(found, want) {
			t.Errorf("%d has the first share %d for %v, but ShareDrawn gives %v", v, a, found, want)
		}
	})
}

// P19
func TestExactlyOneDrawOfTwoGivesAFirstShare(t *testing.T) {
	d := draw(5)
	for range 10 {
		v, a := d.poly(2), d.poly(2)
		want, times := drawnFor(t, v, a), 0
		forPairs(func(left, right int) {
			drawn := []int{left, right}
			first, _ := shares(t, v, drawn)
			same := slices.Equal(first, a)
			if same {
				times++
			}
			if same != slices.Equal(drawn, want) {
				t.Errorf("%v has the first share %v with %v, but ShareDrawn gives %v", v, first, drawn, want)
			}
		})
		if times != 1 {
			t.Errorf("%v has the first share %v for %d draws", v, a, times)
		}
	}
}

// P20
func TestSumsOfSharesGiveTheSumOfTheVectors(t *testing.T) {
	d := draw(6)
	forVectorPairs(func(v, w []int) {
		v1, v2 := shares(t, v, d.poly(len(v)))
		w1, w2 := shares(t, w, d.poly(len(w)))
		got := back(t, sum(t, v1, w1), sum(t, v2, w2))
		if want := sumOf(v, w); !slices.Equal(got, want) || !slices.Equal(got, sum(t, v, w)) {
			t.Errorf("the shares of %v and %v add up to %v, not %v", v, w, got, want)
		}
	})
}

// P20
func TestShareSumOfAVectorAndItself(t *testing.T) {
	for _, v := range someVectors() {
		if got := sum(t, v, v); !slices.Equal(got, sumOf(v, v)) {
			t.Errorf("ShareSum(%v, %v) is %v", v, v, got)
		}
	}
}

// P21
func TestVectorsOfDifferentLengthsFail(t *testing.T) {
	d := draw(7)
	for many := range impl.ShareMax + 1 {
		for more := range impl.ShareMax + 1 {
			if many == more {
				continue
			}
			fails(t, make([]int, many), make([]int, more))
			fails(t, d.poly(many), d.poly(more))
		}
		if many > 0 {
			fails(t, nil, make([]int, many))
			fails(t, make([]int, many), nil)
		}
	}
}

// P21
func TestVectorsAtTheLimit(t *testing.T) {
	for _, s := range sharings() {
		fits := slices.Repeat([]int{last}, impl.ShareMax)
		results, ok := s.call(fits, fits)
		for _, v := range results {
			if !ok || len(v) != impl.ShareMax {
				t.Errorf("%s of ShareMax elements is %v, %t", s.name, results, ok)
			}
		}
	}
	for _, n := range []int{0, 1, last} {
		more := slices.Repeat([]int{n}, impl.ShareMax+1)
		fails(t, more, more)
		fails(t, more, more[:impl.ShareMax])
		fails(t, more[:impl.ShareMax], more)
	}
}

// P18, P19, P20, P21
func TestInvalidVectorsFail(t *testing.T) {
	for _, bad := range notVectors() {
		// As long as the other, so that it does not fail for its length.
		for _, n := range []int{0, 1, last} {
			other := slices.Repeat([]int{n}, len(bad))
			fails(t, bad, other)
			fails(t, other, bad)
		}
		fails(t, bad, slices.Clone(bad))
		fails(t, bad, bad)
		fails(t, bad, nil)
		fails(t, nil, bad)
	}
}

// P18, P19, P20, P21
func TestInvalidElementsInBothVectorsFail(t *testing.T) {
	for _, n := range notElements() {
		for _, m := range notElements() {
			fails(t, []int{n}, []int{m})
			fails(t, []int{n, 1, 1, 1, 1, 1}, []int{1, 1, 1, 1, 1, m})
		}
	}
}

// P22
func TestZeroDrawLeavesTheVector(t *testing.T) {
	for _, v := range someVectors() {
		zero := make([]int, len(v))
		first, second := shares(t, v, zero)
		if !slices.Equal(first, v) || !slices.Equal(second, zero) {
			t.Errorf("with zeros, the shares of %v are %v and %v", v, first, second)
		}
	}
}

// P22
func TestShareDrawnOfAVectorAndItselfIsZero(t *testing.T) {
	for _, v := range someVectors() {
		zero := make([]int, len(v))
		if got := drawnFor(t, v, v); !slices.Equal(got, zero) {
			t.Errorf("ShareDrawn(%v, %v) is %v", v, v, got)
		}
		if got := drawnFor(t, v, slices.Clone(v)); !slices.Equal(got, zero) {
			t.Errorf("ShareDrawn of %v and a copy is %v", v, got)
		}
		if first, second := shares(t, v, v); !slices.Equal(first, zero) || !slices.Equal(second, v) {
			t.Errorf("the shares of %v with itself are %v and %v", v, first, second)
		}
	}
}

// P23
func TestMovingAValueBetweenSharesKeepsTheVector(t *testing.T) {
	for many := range impl.ShareMax + 1 {
		for _, a := range vectorsOf(many) {
			for _, b := range vectorsOf(many) {
				before := back(t, a, b)
				for _, value := range vectorsOf(many) {
					more, less := sum(t, a, value), difOf(b, value)
					if got := back(t, more, less); !slices.Equal(got, before) {
						t.Fatalf("%v and %v with %v moved give %v, not %v", a, b, value, got, before)
					}
				}
			}
		}
	}
}

// P23
func TestMovingAValueOfOnePlaceKeepsTheVector(t *testing.T) {
	d := draw(8)
	for i := range impl.ShareMax {
		a, b := d.poly(impl.ShareMax), d.poly(impl.ShareMax)
		before := back(t, a, b)
		for value := range impl.FieldSize {
			more, less := slices.Clone(a), slices.Clone(b)
			more[i], less[i] = impl.FieldSum(a[i], value), impl.FieldDif(b[i], value)
			if got := back(t, more, less); !slices.Equal(got, before) {
				t.Errorf("%v and %v with %d moved at %d give %v, not %v", a, b, value, i, got, before)
			}
			if got := back(t, less, more); !slices.Equal(got, before) {
				t.Errorf("%v and %v with %d moved at %d give %v, not %v", b, a, value, i, got, before)
			}
		}
	}
}

// P24
func TestPolyThroughASumIsTheSumOfThePolynomials(t *testing.T) {
	check := func(a, b []int) {
		want := sumOf(impl.PolyThrough(a), impl.PolyThrough(b))
		if got := impl.PolyThrough(sum(t, a, b)); !slices.Equal(got, want) {
			t.Errorf("through the sum of %v and %v goes %v, not %v", a, b, got, want)
		}
		if got := sum(t, impl.PolyThrough(a), impl.PolyThrough(b)); !slices.Equal(got, want) {
			t.Errorf("ShareSum of the polynomials through %v and %v is %v, not %v", a, b, got, want)
		}
	}
	for many := range impl.PolyMax + 1 {
		for _, a := range vectorsOf(many) {
			for _, b := range vectorsOf(many) {
				check(a, b)
			}
		}
	}
	forPairs(func(a, b int) { check([]int{a, b}, []int{b, last}) })
}

// P24
func TestPolyThroughASumThatIsTooLongIsEmpty(t *testing.T) {
	for many := impl.PolyMax + 1; many <= impl.ShareMax; many++ {
		v := slices.Repeat([]int{1}, many)
		p := impl.PolyThrough(v)
		if got := impl.PolyThrough(sum(t, v, v)); len(got) != 0 || len(sum(t, p, p)) != 0 {
			t.Errorf("through %d values goes %v", many, got)
		}
	}
}

// General rules, P18, P19, P20
func TestShareFunctionsChangeNoArgument(t *testing.T) {
	check := func(p, q []int) {
		a, b := withSpare(p), withSpare(q)
		beforeA, beforeB := slices.Clone(whole(a)), slices.Clone(whole(b))
		impl.ShareOk(a)
		for _, s := range sharings() {
			s.call(a, b)
			s.call(b, a)
			s.call(a, a)
		}
		if !slices.Equal(whole(a), beforeA) || !slices.Equal(whole(b), beforeB) {
			t.Fatalf("%v or %v is changed", p, q)
		}
	}
	forVectorPairs(check)
	for _, bad := range notVectors() {
		check(bad, slices.Repeat([]int{1}, len(bad)))
		check(bad, []int{1})
	}
}

// overwrite is found out by whatever shares memory with v, even beyond v's
// length.
func overwrite[T int | string](v []T) {
	other := as[T](-7)
	for i := range whole(v) {
		whole(v)[i] = other
	}
}

// General rules, P18, P19, P20
func TestShareResultsShareNoMemoryWithArguments(t *testing.T) {
	forVectorPairs(func(p, q []int) {
		a, b := withSpare(p), withSpare(q)
		beforeA, beforeB := slices.Clone(whole(a)), slices.Clone(whole(b))
		for _, s := range sharings() {
			results, _ := s.call(a, b)
			same, _ := s.call(a, a)
			for _, v := range append(results, same...) {
				overwrite(v)
			}
			if !slices.Equal(whole(a), beforeA) || !slices.Equal(whole(b), beforeB) {
				t.Fatalf("a result of %s shares memory with %v or %v", s.name, p, q)
			}
		}
	})
}

// General rules, P18
func TestBothSharesShareNoMemory(t *testing.T) {
	forVectorPairs(func(v, drawn []int) {
		first, second := shares(t, v, drawn)
		beforeFirst := slices.Clone(whole(first))
		overwrite(second)
		if !slices.Equal(whole(first), beforeFirst) {
			t.Fatalf("the shares of %v with %v share memory", v, drawn)
		}
		first, second = shares(t, v, drawn)
		overwrite(first)
		if !slices.Equal(second, drawn) {
			t.Fatalf("the shares of %v with %v share memory", v, drawn)
		}
	})
}

// General rules
func TestShareResultsOfTwoCallsShareNoMemory(t *testing.T) {
	a, b := vectorsOf(impl.ShareMax)[4], vectorsOf(impl.ShareMax)[5]
	for _, s := range sharings() {
		first, _ := s.call(a, b)
		var before [][]int
		for _, v := range first {
			before = append(before, slices.Clone(v))
		}
		second, _ := s.call(a, b)
		for _, v := range second {
			overwrite(v)
		}
		third, _ := s.call(a, b)
		for i := range before {
			if !slices.Equal(first[i], before[i]) || !slices.Equal(third[i], before[i]) {
				t.Errorf("results of two calls of %s share memory", s.name)
			}
		}
	}
}

// General rules: a goroutine that is still at work after the call would use
// the arguments that are overwritten here.
func TestShareFunctionsAreDoneWhenTheyReturn(t *testing.T) {
	d := draw(9)
	for range 2000 {
		p, q := d.poly(impl.ShareMax), d.poly(impl.ShareMax)
		for _, s := range sharings() {
			a, b := slices.Clone(p), slices.Clone(q)
			results, _ := s.call(a, b)
			overwrite(a)
			overwrite(b)
			want := sumOf(p, q)
			if s.name == "ShareMake" || s.name == "ShareDrawn" {
				want = difOf(p, q)
			}
			if !slices.Equal(results[0], want) {
				t.Fatalf("%s(%v, %v) is %v, not %v", s.name, p, q, results[0], want)
			}
		}
	}
}

// General rules: calls at the same time on the same arguments keep no state.
func TestShareFunctionsAtTheSameTime(t *testing.T) {
	a, b := vectorsOf(impl.ShareMax)[4], vectorsOf(impl.ShareMax)[5]
	var callers sync.WaitGroup
	for range 8 {
		callers.Go(func() {
			for range 200 {
				first, second, _ := impl.ShareMake(a, b)
				if v, _ := impl.ShareBack(first, second); !slices.Equal(v, a) {
					t.Errorf("the shares of %v give back %v", a, v)
				}
			}
		})
	}
	callers.Wait()
}

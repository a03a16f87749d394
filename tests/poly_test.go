package tests

import (
	"math"
	"slices"
	"strconv"
	"testing"

	"loop.example/scrutineer/impl"
)

// draw has numbers that differ from call to call but are the same in each run.
type draw uint32

func (d *draw) element() int {
	*d = *d*1664525 + 1013904223
	return int(*d>>16) % impl.FieldSize
}

func (d *draw) poly(many int) []int {
	p := make([]int, many)
	for i := range p {
		p[i] = d.element()
	}
	return p
}

// forShortPolys has every polynomial of at most three coefficients.
func forShortPolys(check func(p []int)) {
	check(nil)
	check([]int{})
	for a := range impl.FieldSize {
		check([]int{a})
	}
	forPairs(func(a, b int) { check([]int{a, b}) })
	forTriples(func(a, b, c int) { check([]int{a, b, c}) })
}

// somePolys has, for each length, polynomials that are likely to be treated
// wrongly (zeros, leading zeros, the largest coefficients) and drawn ones.
func somePolys() [][]int {
	d := draw(1)
	polys := [][]int{nil}
	for many := range impl.PolyMax + 1 {
		polys = append(polys, make([]int, many), slices.Repeat([]int{1}, many), slices.Repeat([]int{last}, many))
		for range 4 {
			polys = append(polys, d.poly(many))
		}
		if many > 0 {
			first, end := make([]int, many), make([]int, many)
			first[0], end[many-1] = last, 2
			polys = append(polys, first, end)
		}
	}
	return polys
}

func forPolyPairs(check func(a, b []int)) {
	for _, a := range somePolys() {
		for _, b := range somePolys() {
			check(a, b)
		}
	}
}

// notPolys has slices that are too long, and, at each place of each length,
// each number that is no element.
func notPolys() [][]int {
	var bad [][]int
	for _, many := range []int{impl.PolyMax + 1, impl.PolyMax + 2, 2 * impl.PolyMax, 1000} {
		bad = append(bad, make([]int, many), slices.Repeat([]int{1}, many))
	}
	for many := 1; many <= impl.PolyMax; many++ {
		for i := range many {
			for _, n := range notElements() {
				p := slices.Repeat([]int{1}, many)
				p[i] = n
				bad = append(bad, p)
			}
		}
	}
	return bad
}

// valueOf adds up the powers in whole numbers and reduces once at the end.
func valueOf(p []int, x int) int {
	sum, power := 0, 1
	for _, c := range p {
		sum += c * power
		power *= x
	}
	return sum % 31
}

// valuesOf has the values of p at 0, 1, and so on, one for each coefficient.
func valuesOf(p []int) []int {
	vals := make([]int, len(p))
	for i := range p {
		vals[i] = impl.PolyAt(p, i)
	}
	return vals
}

func product(t *testing.T, a, b []int) []int {
	t.Helper()
	p, ok := impl.PolyMul(a, b)
	if !ok {
		t.Fatalf("PolyMul(%v, %v) fails", a, b)
	}
	return p
}

// Chapter 2
func TestPolyMaxIsThatOfTheDocument(t *testing.T) {
	if impl.PolyMax != 9 {
		t.Errorf("PolyMax is %d", impl.PolyMax)
	}
}

// P15
func TestPolyOkOfPolynomials(t *testing.T) {
	forShortPolys(func(p []int) {
		if !impl.PolyOk(p) {
			t.Errorf("PolyOk(%v) is false", p)
		}
	})
	for _, p := range somePolys() {
		for many := range len(p) + 1 {
			if !impl.PolyOk(p[:many]) {
				t.Errorf("PolyOk(%v) is false", p[:many])
			}
		}
	}
}

// P15
func TestPolyOkOfOtherSlices(t *testing.T) {
	for _, p := range notPolys() {
		if impl.PolyOk(p) {
			t.Errorf("PolyOk(%v) is true", p)
		}
	}
}

// P15
func TestPolyOkCountsOnlyTheLength(t *testing.T) {
	long := append(make([]int, impl.PolyMax), -1)
	if !impl.PolyOk(long[:impl.PolyMax]) || !impl.PolyOk(long[:0]) {
		t.Error("what is beyond the length makes a polynomial invalid")
	}
}

// Chapter 2
func TestPolyAtOfExamples(t *testing.T) {
	for _, c := range []struct {
		p       []int
		x, want int
	}{
		{nil, 0, 0}, {nil, last, 0}, {[]int{}, 5, 0}, {[]int{7}, 0, 7}, {[]int{7}, last, 7},
		{[]int{1, 2, 3}, 2, 17}, {[]int{1, 2, 3}, last, 2}, {[]int{0, 0, 1}, 6, 5}, {[]int{last, 1}, 1, 0},
	} {
		if got := impl.PolyAt(c.p, c.x); got != c.want {
			t.Errorf("PolyAt(%v, %d) is %d, not %d", c.p, c.x, got, c.want)
		}
	}
}

// Chapter 2
func TestPolyAtIsTheSumOfPowers(t *testing.T) {
	for _, p := range somePolys() {
		for x := range impl.FieldSize {
			if got, want := impl.PolyAt(p, x), valueOf(p, x); got != want {
				t.Errorf("PolyAt(%v, %d) is %d, not %d", p, x, got, want)
			}
		}
	}
}

// P9
func TestPolyAtFollowsHornersRule(t *testing.T) {
	for _, p := range somePolys() {
		for x := range impl.FieldSize {
			want := 0
			if len(p) > 0 {
				want = impl.FieldSum(p[0], impl.FieldMul(x, impl.PolyAt(p[1:], x)))
			}
			if got := impl.PolyAt(p, x); got != want {
				t.Errorf("PolyAt(%v, %d) is %d, not %d", p, x, got, want)
			}
		}
	}
}

// P9
func TestPolyAtOfZeroAndOne(t *testing.T) {
	check := func(p []int) {
		constant, sum := 0, 0
		for i, c := range p {
			if i == 0 {
				constant = c
			}
			sum = (sum + c) % 31
		}
		if got := impl.PolyAt(p, 0); got != constant {
			t.Errorf("PolyAt(%v, 0) is %d", p, got)
		}
		if got := impl.PolyAt(p, 1); got != sum {
			t.Errorf("PolyAt(%v, 1) is %d", p, got)
		}
	}
	forShortPolys(check)
	for _, p := range somePolys() {
		check(p)
	}
}

// P9
func TestPolyAtOfInvalidArguments(t *testing.T) {
	for _, p := range notPolys() {
		for _, x := range []int{0, 1, 2, last, -1, math.MinInt, math.MaxInt} {
			if got := impl.PolyAt(p, x); got != 0 {
				t.Errorf("PolyAt(%v, %d) is %d", p, x, got)
			}
		}
	}
	for _, p := range somePolys() {
		for _, x := range notElements() {
			if got := impl.PolyAt(p, x); got != 0 {
				t.Errorf("PolyAt(%v, %d) is %d", p, x, got)
			}
		}
	}
}

// Chapter 2
func TestPolyMulOfExamples(t *testing.T) {
	for _, c := range []struct{ a, b, want []int }{
		{[]int{1, 1}, []int{1, 30}, []int{1, 0, 30}},
		{[]int{2, 3}, []int{4, 5, 6}, []int{8, 22, 27, 18}},
		{[]int{6}, []int{6}, []int{5}},
		{[]int{0}, []int{0}, []int{0}},
		{[]int{0}, []int{1, 2}, []int{0, 0}},
		{[]int{1, 0}, []int{2, 0}, []int{2, 0, 0}},
	} {
		if got := product(t, c.a, c.b); !slices.Equal(got, c.want) {
			t.Errorf("PolyMul(%v, %v) is %v, not %v", c.a, c.b, got, c.want)
		}
	}
}

// P10
func TestPolyMulFailsOnlyForTooManyCoefficients(t *testing.T) {
	forPolyPairs(func(a, b []int) {
		many := len(a) + len(b) - 1
		if len(a) == 0 || len(b) == 0 {
			many = 0
		}
		got, ok := impl.PolyMul(a, b)
		if ok != (many <= impl.PolyMax) {
			t.Errorf("PolyMul(%v, %v) says %t", a, b, ok)
		}
		if ok && len(got) != many || !ok && len(got) != 0 {
			t.Errorf("PolyMul(%v, %v) is %v", a, b, got)
		}
		if !impl.PolyOk(got) {
			t.Errorf("PolyMul(%v, %v) is %v, which is no polynomial", a, b, got)
		}
	})
}

// P10
func TestPolyMulAtTheLimit(t *testing.T) {
	for many := 1; many <= impl.PolyMax; many++ {
		a := slices.Repeat([]int{1}, many)
		fits := slices.Repeat([]int{1}, impl.PolyMax+1-many)
		if got := product(t, a, fits); len(got) != impl.PolyMax || got[impl.PolyMax-1] != 1 {
			t.Errorf("PolyMul(%v, %v) is %v", a, fits, got)
		}
		// A product that is too long fails even if its last coefficients are 0.
		for _, more := range [][]int{slices.Concat(fits, []int{1}), slices.Concat(fits, []int{0}), make([]int, len(fits)+1)} {
			if !impl.PolyOk(more) {
				continue
			}
			if got, ok := impl.PolyMul(a, more); ok || len(got) != 0 {
				t.Errorf("PolyMul(%v, %v) is %v, %t", a, more, got, ok)
			}
		}
	}
}

// P10
func TestPolyMulMultipliesTheValues(t *testing.T) {
	forPolyPairs(func(a, b []int) {
		p, ok := impl.PolyMul(a, b)
		for x := range impl.FieldSize {
			want := impl.FieldMul(impl.PolyAt(a, x), impl.PolyAt(b, x))
			if ok && impl.PolyAt(p, x) != want {
				t.Errorf("PolyMul(%v, %v) is %v, which is not %d at %d", a, b, p, want, x)
			}
		}
	})
}

// P10
func TestPolyMulIsCommutative(t *testing.T) {
	forPolyPairs(func(a, b []int) {
		p, ok := impl.PolyMul(a, b)
		q, too := impl.PolyMul(b, a)
		if ok != too || !slices.Equal(p, q) {
			t.Errorf("PolyMul(%v, %v) is %v, %t, the other way round %v, %t", a, b, p, ok, q, too)
		}
	})
}

// P10
func TestPolyMulOfInvalidPolynomials(t *testing.T) {
	good := [][]int{nil, {}, {0}, {1}, {1, 1}, slices.Repeat([]int{last}, impl.PolyMax)}
	check := func(a, b []int) {
		if got, ok := impl.PolyMul(a, b); ok || len(got) != 0 {
			t.Errorf("PolyMul(%v, %v) is %v, %t", a, b, got, ok)
		}
	}
	for _, bad := range notPolys() {
		for _, p := range good {
			check(bad, p)
			check(p, bad)
		}
		check(bad, bad)
	}
}

// P16
func TestPolyMulIsAssociative(t *testing.T) {
	d := draw(2)
	for range 3000 {
		// At most 4, 4 and 3 coefficients, so that no product has too many.
		a, b, c := d.poly(d.element()%5), d.poly(d.element()%5), d.poly(d.element()%4)
		left, right := product(t, product(t, a, b), c), product(t, a, product(t, b, c))
		if !slices.Equal(left, right) {
			t.Errorf("the product of %v, %v and %v depends on the grouping: %v, %v", a, b, c, left, right)
		}
	}
}

// P16
func TestPolyMulOfThreeIsAssociativeAtTheLimit(t *testing.T) {
	d := draw(3)
	for many := 1; many <= impl.PolyMax; many++ {
		for more := 1; many+more-1 <= impl.PolyMax; more++ {
			a, b, c := d.poly(many), d.poly(more), d.poly(impl.PolyMax+2-many-more)
			left, right := product(t, product(t, a, b), c), product(t, a, product(t, b, c))
			if len(left) != impl.PolyMax || !slices.Equal(left, right) {
				t.Errorf("the product of %v, %v and %v depends on the grouping: %v, %v", a, b, c, left, right)
			}
		}
	}
}

// P17
func TestPolyMulWithOneIsThePolynomial(t *testing.T) {
	for _, p := range somePolys() {
		if got := product(t, p, []int{1}); !slices.Equal(got, p) {
			t.Errorf("%v times 1 is %v", p, got)
		}
		if got := product(t, []int{1}, p); !slices.Equal(got, p) {
			t.Errorf("1 times %v is %v", p, got)
		}
	}
}

// P17
func TestPolyMulWithTheEmptyPolynomialIsEmpty(t *testing.T) {
	for _, p := range somePolys() {
		for _, empty := range [][]int{nil, {}} {
			if got := product(t, p, empty); len(got) != 0 {
				t.Errorf("%v times nothing is %v", p, got)
			}
			if got := product(t, empty, p); len(got) != 0 {
				t.Errorf("nothing times %v is %v", p, got)
			}
		}
	}
}

// P17
func TestPolyMulWithXShifts(t *testing.T) {
	x := []int{0, 1}
	for _, p := range somePolys() {
		if len(p) == 0 || len(p) == impl.PolyMax {
			continue
		}
		want := append([]int{0}, p...)
		if got := product(t, p, x); !slices.Equal(got, want) {
			t.Errorf("%v times x is %v", p, got)
		}
		if got := product(t, x, p); !slices.Equal(got, want) {
			t.Errorf("x times %v is %v", p, got)
		}
	}
}

// P17
func TestPolyMulOfTheLongestWithXFails(t *testing.T) {
	p := make([]int, impl.PolyMax)
	if got, ok := impl.PolyMul(p, []int{0, 1}); ok || len(got) != 0 {
		t.Errorf("PolyMul is %v, %t", got, ok)
	}
}

// P14
func TestNonzeroPolynomialHasFewZeros(t *testing.T) {
	check := func(p []int) {
		zeros := 0
		for x := range impl.FieldSize {
			if impl.PolyAt(p, x) == 0 {
				zeros++
			}
		}
		nonzero := slices.ContainsFunc(p, func(c int) bool { return c != 0 })
		if nonzero && zeros >= len(p) || !nonzero && zeros != impl.FieldSize {
			t.Errorf("%v has %d zeros", p, zeros)
		}
	}
	forShortPolys(check)
	for _, p := range somePolys() {
		check(p)
	}
}

// P14
func TestProductOfLinesHasTheirZeros(t *testing.T) {
	p := []int{5}
	for root := range impl.PolyMax - 1 {
		p = product(t, p, []int{impl.FieldDif(0, 3*root), 1})
		for x := range impl.FieldSize {
			zero := x%3 == 0 && x <= 3*root
			if (impl.PolyAt(p, x) == 0) != zero {
				t.Errorf("%v at %d is %d", p, x, impl.PolyAt(p, x))
			}
		}
	}
}

// Chapter 2
func TestPolyLineOfExamples(t *testing.T) {
	for _, c := range []struct {
		many, x int
		want    []int
	}{
		{2, 2, []int{30, 2}}, {2, 5, []int{27, 5}}, {1, 0, []int{1}}, {1, last, []int{1}},
		{3, 3, []int{1, 28, 3}}, {3, last, []int{3, 28, 1}}, {2, 0, []int{1, 0}}, {2, 1, []int{0, 1}},
	} {
		if got := impl.PolyLine(c.many, c.x); !slices.Equal(got, c.want) {
			t.Errorf("PolyLine(%d, %d) is %v, not %v", c.many, c.x, got, c.want)
		}
	}
}

// P11
func TestPolyLineWeighsTheValues(t *testing.T) {
	check := func(vals []int) {
		p := impl.PolyThrough(vals)
		for x := range impl.FieldSize {
			line := impl.PolyLine(len(vals), x)
			if len(line) != len(vals) {
				t.Fatalf("PolyLine(%d, %d) is %v", len(vals), x, line)
			}
			sum := 0
			for i, w := range line {
				sum = impl.FieldSum(sum, impl.FieldMul(w, vals[i]))
			}
			if got := impl.PolyAt(p, x); got != sum {
				t.Errorf("through %v: %d at %d, but %d by PolyLine", vals, got, x, sum)
			}
		}
	}
	forPairs(func(a, b int) { check([]int{a, b}) })
	for _, vals := range somePolys() {
		check(vals)
	}
}

// P11
func TestPolyLineWeighsTheValuesOfAPolynomial(t *testing.T) {
	for _, p := range somePolys() {
		for x := range impl.FieldSize {
			sum := 0
			for i, w := range impl.PolyLine(len(p), x) {
				sum += w * valueOf(p, i)
			}
			if sum%31 != valueOf(p, x) {
				t.Errorf("PolyLine gives %d for %v at %d", sum%31, p, x)
			}
		}
	}
}

// P12
func TestPolyLineHasManyElements(t *testing.T) {
	for many := range impl.PolyMax + 1 {
		for x := range impl.FieldSize {
			if got := impl.PolyLine(many, x); len(got) != many || !impl.PolyOk(got) {
				t.Errorf("PolyLine(%d, %d) is %v", many, x, got)
			}
		}
	}
}

// P12
func TestPolyLineAtAnInterpolationPoint(t *testing.T) {
	for many := 1; many <= impl.PolyMax; many++ {
		for x := range many {
			want := make([]int, many)
			want[x] = 1
			if got := impl.PolyLine(many, x); !slices.Equal(got, want) {
				t.Errorf("PolyLine(%d, %d) is %v", many, x, got)
			}
		}
	}
}

// P12
func TestPolyLineElsewhereHasNoZero(t *testing.T) {
	for many := range impl.PolyMax + 1 {
		for x := many; x < impl.FieldSize; x++ {
			if got := impl.PolyLine(many, x); len(got) != many || slices.Contains(got, 0) {
				t.Errorf("PolyLine(%d, %d) is %v", many, x, got)
			}
		}
	}
}

// P12
func TestPolyLineAddsUpToOne(t *testing.T) {
	for many := 1; many <= impl.PolyMax; many++ {
		for x := range impl.FieldSize {
			sum := 0
			for _, w := range impl.PolyLine(many, x) {
				sum += w
			}
			if sum%31 != 1 {
				t.Errorf("PolyLine(%d, %d) adds up to %d", many, x, sum%31)
			}
		}
	}
}

// P12
func TestPolyLineOfInvalidArguments(t *testing.T) {
	manys := []int{-1, -2, -impl.PolyMax, impl.PolyMax + 1, impl.PolyMax + 2, impl.FieldSize, impl.FieldSize + 1, math.MinInt, math.MaxInt}
	for _, many := range manys {
		for _, x := range append(notElements(), 0, 1, 9, 10, last) {
			if got := impl.PolyLine(many, x); len(got) != 0 {
				t.Errorf("PolyLine(%d, %d) is %v", many, x, got)
			}
		}
	}
	for many := range impl.PolyMax + 1 {
		for _, x := range notElements() {
			if got := impl.PolyLine(many, x); len(got) != 0 {
				t.Errorf("PolyLine(%d, %d) is %v", many, x, got)
			}
		}
	}
}

// Chapter 2
func TestPolyThroughOfExamples(t *testing.T) {
	for _, c := range []struct{ vals, want []int }{
		{nil, nil}, {[]int{}, nil}, {[]int{7}, []int{7}}, {[]int{0, 1, 4}, []int{0, 0, 1}},
		{[]int{5, 5, 5}, []int{5, 0, 0}}, {[]int{3, 2}, []int{3, 30}}, {[]int{0, 0}, []int{0, 0}},
		{[]int{0, 0, 1}, []int{0, 15, 16}}, {[]int{1, 2, 9, 28}, []int{1, 0, 0, 1}},
	} {
		if got := impl.PolyThrough(c.vals); !slices.Equal(got, c.want) {
			t.Errorf("PolyThrough(%v) is %v, not %v", c.vals, got, c.want)
		}
	}
}

// P13
func TestPolyThroughHasTheValues(t *testing.T) {
	check := func(vals []int) {
		p := impl.PolyThrough(vals)
		if len(p) != len(vals) || !impl.PolyOk(p) {
			t.Fatalf("PolyThrough(%v) is %v", vals, p)
		}
		for i, want := range vals {
			if got := valueOf(p, i); got != want {
				t.Errorf("PolyThrough(%v) is %v, which is %d at %d", vals, p, got, i)
			}
		}
	}
	forShortPolys(check)
	for _, vals := range somePolys() {
		check(vals)
	}
}

// P13
func TestPolyThroughReturnsThePolynomial(t *testing.T) {
	check := func(p []int) {
		if got := impl.PolyThrough(valuesOf(p)); !slices.Equal(got, p) {
			t.Errorf("PolyThrough the values of %v is %v", p, got)
		}
	}
	forShortPolys(check)
	for _, p := range somePolys() {
		check(p)
	}
}

// P13
func TestPolyThroughOfInvalidValues(t *testing.T) {
	for _, vals := range notPolys() {
		if got := impl.PolyThrough(vals); len(got) != 0 {
			t.Errorf("PolyThrough(%v) is %v", vals, got)
		}
	}
}

// as is a number, or its text where slices are of texts.
func as[T int | string](n int) T {
	var out T
	switch p := any(&out).(type) {
	case *int:
		*p = n
	case *string:
		*p = strconv.Itoa(n)
	}
	return out
}

// withSpare has the elements of p in a slice with capacity left, so that a
// function that appends to its argument is found out, whatever it appends:
// what is there is no element.
func withSpare[T int | string](p []T) []T {
	spare := slices.Repeat([]T{as[T](-9)}, impl.ShareMax+1)
	return slices.Concat(p, spare)[:len(p)]
}

func whole[T any](p []T) []T {
	return p[:cap(p)]
}

// callsWithSlices has every function of chapter 2 that takes a slice; those
// without a slice as result have none.
func callsWithSlices() map[string]func(a, b []int) []int {
	return map[string]func(a, b []int) []int{
		"PolyOk":      func(a, b []int) []int { impl.PolyOk(a); return nil },
		"PolyAt":      func(a, b []int) []int { impl.PolyAt(a, 3); return nil },
		"PolyMul":     func(a, b []int) []int { p, _ := impl.PolyMul(a, b); return p },
		"PolyMulSame": func(a, b []int) []int { p, _ := impl.PolyMul(a, a); return p },
		"PolyThrough": func(a, b []int) []int { return impl.PolyThrough(a) },
	}
}

// General rules, P10, P13, P17
func TestPolyFunctionsChangeNoArgument(t *testing.T) {
	polys := append(somePolys(), notPolys()...)
	for name, call := range callsWithSlices() {
		for _, p := range polys {
			for _, q := range [][]int{nil, {}, {1}, {0, 1}, {1, 2, 3}} {
				a, b := withSpare(p), withSpare(q)
				beforeA, beforeB := slices.Clone(whole(a)), slices.Clone(whole(b))
				call(a, b)
				call(b, a)
				if !slices.Equal(whole(a), beforeA) || !slices.Equal(whole(b), beforeB) {
					t.Fatalf("%s changes %v or %v", name, p, q)
				}
			}
		}
	}
}

// General rules, P10, P13, P17
func TestPolyResultsShareNoMemoryWithArguments(t *testing.T) {
	for name, call := range callsWithSlices() {
		for _, p := range somePolys() {
			for _, q := range [][]int{nil, {}, {1}, {0, 1}, {1, 2, 3}} {
				a, b := withSpare(p), withSpare(q)
				beforeA, beforeB := slices.Clone(whole(a)), slices.Clone(whole(b))
				for _, result := range [][]int{call(a, b), call(b, a)} {
					for i := range whole(result) {
						whole(result)[i] = -7
					}
				}
				if !slices.Equal(whole(a), beforeA) || !slices.Equal(whole(b), beforeB) {
					t.Fatalf("a result of %s shares memory with %v or %v", name, p, q)
				}
			}
		}
	}
}

// General rules
func TestPolyResultsShareNoMemoryWithEachOther(t *testing.T) {
	p := []int{1, 2, 3}
	calls := callsWithSlices()
	calls["PolyLine"] = func(a, b []int) []int { return impl.PolyLine(len(a), 7) }
	for name, call := range calls {
		first := call(p, []int{1})
		before := slices.Clone(first)
		second := call(p, []int{1})
		for i := range whole(second) {
			whole(second)[i] = -7
		}
		if !slices.Equal(first, before) || !slices.Equal(call(p, []int{1}), before) {
			t.Errorf("two results of %s share memory", name)
		}
	}
}

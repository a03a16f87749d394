package tests

import (
	"math"
	"testing"

	"loop.example/scrutineer/impl"
)

const last = impl.FieldSize - 1

// notElements has numbers just outside the field, some that are congruent to
// elements other than 0, and those at which careless arithmetic overflows.
func notElements() []int {
	return []int{
		-1, -2, -last, -impl.FieldSize, -impl.FieldSize - 1, -1000,
		impl.FieldSize, impl.FieldSize + 1, 2*impl.FieldSize - 1, 2 * impl.FieldSize, 1000,
		math.MinInt, math.MinInt + 1, math.MinInt32, math.MaxInt32, math.MaxInt - 1, math.MaxInt,
	}
}

func forPairs(check func(a, b int)) {
	for a := range impl.FieldSize {
		for b := range impl.FieldSize {
			check(a, b)
		}
	}
}

func forTriples(check func(a, b, c int)) {
	forPairs(func(a, b int) {
		for c := range impl.FieldSize {
			check(a, b, c)
		}
	})
}

// forInvalidPairs has each number that is no element on either side of every
// element, and on both sides.
func forInvalidPairs(check func(a, b int)) {
	for _, bad := range notElements() {
		for n := range impl.FieldSize {
			check(bad, n)
			check(n, bad)
		}
		for _, other := range notElements() {
			check(bad, other)
		}
	}
}

func inverse(t *testing.T, a int) int {
	t.Helper()
	n, ok := impl.FieldInv(a)
	if !ok {
		t.Fatalf("FieldInv(%d) fails", a)
	}
	return n
}

// Chapter 1
func TestFieldSizeIsThatOfTheDocument(t *testing.T) {
	if impl.FieldSize != 31 {
		t.Errorf("FieldSize is %d", impl.FieldSize)
	}
}

// P1
func TestFieldOkOfElements(t *testing.T) {
	for n := range 31 {
		if !impl.FieldOk(n) {
			t.Errorf("FieldOk(%d) is false", n)
		}
	}
}

// P1
func TestFieldOkOfOtherNumbers(t *testing.T) {
	for _, n := range notElements() {
		if impl.FieldOk(n) {
			t.Errorf("FieldOk(%d) is true", n)
		}
	}
	for n := 1; n <= 5000; n++ {
		if impl.FieldOk(-n) || impl.FieldOk(last+n) {
			t.Errorf("FieldOk(%d) or FieldOk(%d) is true", -n, last+n)
		}
	}
}

// Chapter 1
func TestFieldSumOfExamples(t *testing.T) {
	for _, c := range []struct{ a, b, want int }{
		{0, 0, 0}, {0, last, last}, {1, 1, 2}, {15, 15, 30}, {15, 16, 0}, {1, last, 0}, {30, 3, 2}, {last, last, 29},
	} {
		if got := impl.FieldSum(c.a, c.b); got != c.want {
			t.Errorf("FieldSum(%d, %d) is %d, not %d", c.a, c.b, got, c.want)
		}
	}
}

// Chapter 1
func TestFieldSumIsModuloFieldSize(t *testing.T) {
	forPairs(func(a, b int) {
		if got := impl.FieldSum(a, b); got != (a+b)%31 {
			t.Errorf("FieldSum(%d, %d) is %d", a, b, got)
		}
	})
}

// P2
func TestFieldSumIsCommutativeWithIdentity(t *testing.T) {
	forPairs(func(a, b int) {
		if impl.FieldSum(a, b) != impl.FieldSum(b, a) {
			t.Errorf("FieldSum(%d, %d) depends on the order", a, b)
		}
	})
	for a := range impl.FieldSize {
		if impl.FieldSum(a, 0) != a || impl.FieldSum(0, a) != a {
			t.Errorf("0 changes %d", a)
		}
	}
}

// P2
func TestFieldSumIsAssociative(t *testing.T) {
	forTriples(func(a, b, c int) {
		if impl.FieldSum(impl.FieldSum(a, b), c) != impl.FieldSum(a, impl.FieldSum(b, c)) {
			t.Errorf("the sum of %d, %d and %d depends on the grouping", a, b, c)
		}
	})
}

// P2
func TestFieldSumOfInvalidNumbers(t *testing.T) {
	forInvalidPairs(func(a, b int) {
		if got := impl.FieldSum(a, b); got != 0 {
			t.Errorf("FieldSum(%d, %d) is %d", a, b, got)
		}
	})
}

// Chapter 1
func TestFieldDifOfExamples(t *testing.T) {
	for _, c := range []struct{ a, b, want int }{
		{0, 0, 0}, {last, 0, last}, {5, 3, 2}, {3, 5, 29}, {0, 1, last}, {0, last, 1}, {last, last, 0}, {1, last, 2},
	} {
		if got := impl.FieldDif(c.a, c.b); got != c.want {
			t.Errorf("FieldDif(%d, %d) is %d, not %d", c.a, c.b, got, c.want)
		}
	}
}

// P3
func TestFieldDifAndFieldSumReverseEachOther(t *testing.T) {
	forPairs(func(a, b int) {
		if impl.FieldDif(impl.FieldSum(a, b), b) != a {
			t.Errorf("FieldDif does not reverse FieldSum(%d, %d)", a, b)
		}
		if impl.FieldSum(impl.FieldDif(a, b), b) != a {
			t.Errorf("FieldSum does not reverse FieldDif(%d, %d)", a, b)
		}
	})
}

// P3
func TestFieldDifIsAnElement(t *testing.T) {
	forPairs(func(a, b int) {
		if got := impl.FieldDif(a, b); got < 0 || got > last {
			t.Errorf("FieldDif(%d, %d) is %d", a, b, got)
		}
	})
}

// P3
func TestFieldDifOfInvalidNumbers(t *testing.T) {
	forInvalidPairs(func(a, b int) {
		if got := impl.FieldDif(a, b); got != 0 {
			t.Errorf("FieldDif(%d, %d) is %d", a, b, got)
		}
	})
}

// Chapter 1
func TestFieldMulOfExamples(t *testing.T) {
	for _, c := range []struct{ a, b, want int }{
		{0, 0, 0}, {0, last, 0}, {1, last, last}, {8, 4, 1}, {5, 6, 30}, {4, 8, 1}, {last, last, 1}, {last, 2, 29},
	} {
		if got := impl.FieldMul(c.a, c.b); got != c.want {
			t.Errorf("FieldMul(%d, %d) is %d, not %d", c.a, c.b, got, c.want)
		}
	}
}

// Chapter 1
func TestFieldMulIsModuloFieldSize(t *testing.T) {
	forPairs(func(a, b int) {
		if got := impl.FieldMul(a, b); got != (a*b)%31 {
			t.Errorf("FieldMul(%d, %d) is %d", a, b, got)
		}
	})
}

// P4
func TestFieldMulIsCommutativeWithIdentity(t *testing.T) {
	forPairs(func(a, b int) {
		if impl.FieldMul(a, b) != impl.FieldMul(b, a) {
			t.Errorf("FieldMul(%d, %d) depends on the order", a, b)
		}
	})
	for a := range impl.FieldSize {
		if impl.FieldMul(a, 1) != a || impl.FieldMul(1, a) != a {
			t.Errorf("1 changes %d", a)
		}
	}
}

// P4
func TestFieldMulIsAssociativeAndDistributes(t *testing.T) {
	forTriples(func(a, b, c int) {
		if impl.FieldMul(impl.FieldMul(a, b), c) != impl.FieldMul(a, impl.FieldMul(b, c)) {
			t.Errorf("the product of %d, %d and %d depends on the grouping", a, b, c)
		}
		if impl.FieldMul(a, impl.FieldSum(b, c)) != impl.FieldSum(impl.FieldMul(a, b), impl.FieldMul(a, c)) {
			t.Errorf("%d does not distribute over %d and %d", a, b, c)
		}
	})
}

// P5
func TestFieldMulIsZeroOnlyWithAZeroFactor(t *testing.T) {
	forPairs(func(a, b int) {
		if (impl.FieldMul(a, b) == 0) != (a == 0 || b == 0) {
			t.Errorf("FieldMul(%d, %d) is %d", a, b, impl.FieldMul(a, b))
		}
	})
}

// P4, P5
func TestFieldMulOfInvalidNumbers(t *testing.T) {
	forInvalidPairs(func(a, b int) {
		if got := impl.FieldMul(a, b); got != 0 {
			t.Errorf("FieldMul(%d, %d) is %d", a, b, got)
		}
	})
}

// Chapter 1
func TestFieldInvOfExamples(t *testing.T) {
	for _, c := range []struct{ a, want int }{{1, 1}, {2, 16}, {3, 21}, {4, 8}, {8, 4}, {16, 2}, {last, last}} {
		if got := inverse(t, c.a); got != c.want {
			t.Errorf("FieldInv(%d) is %d, not %d", c.a, got, c.want)
		}
	}
}

// P6
func TestFieldInvIsTheInverse(t *testing.T) {
	for a := 1; a < impl.FieldSize; a++ {
		n := inverse(t, a)
		if n < 1 || n > last {
			t.Errorf("FieldInv(%d) is %d", a, n)
		}
		if impl.FieldMul(a, n) != 1 || impl.FieldMul(n, a) != 1 {
			t.Errorf("the product of %d and its inverse %d is not 1", a, n)
		}
		if inverse(t, n) != a {
			t.Errorf("the inverse of the inverse of %d is %d", a, inverse(t, n))
		}
	}
}

// P6
func TestFieldInvIsMultiplicative(t *testing.T) {
	forPairs(func(a, b int) {
		if a == 0 || b == 0 {
			return
		}
		if inverse(t, impl.FieldMul(a, b)) != impl.FieldMul(inverse(t, a), inverse(t, b)) {
			t.Errorf("the inverse of %d times %d is not the product of both inverses", a, b)
		}
	})
}

// P6
func TestFieldInvFailsForZeroAndInvalidNumbers(t *testing.T) {
	for _, a := range append(notElements(), 0) {
		if n, ok := impl.FieldInv(a); n != 0 || ok {
			t.Errorf("FieldInv(%d) is %d, %t", a, n, ok)
		}
	}
}

// P7
func TestFieldMulIsInjective(t *testing.T) {
	forTriples(func(a, b, c int) {
		if a != 0 && b != c && impl.FieldMul(a, b) == impl.FieldMul(a, c) {
			t.Errorf("%d times %d is %d times %d", a, b, a, c)
		}
	})
}

// P8
func TestFieldSquaresAreEqualOnlyUpToSign(t *testing.T) {
	forPairs(func(a, b int) {
		same := impl.FieldMul(a, a) == impl.FieldMul(b, b)
		if same != (a == b || impl.FieldSum(a, b) == 0) {
			t.Errorf("squares of %d and %d: same is %t", a, b, same)
		}
	})
}

package impl

// FieldSize is how many field elements there are, from 0 on: a prime.
const FieldSize = 31

// element is a number from 0 to FieldSize-1. The exported functions check
// their arguments before they make one, so the methods need no checks.
type element int

// reduce is the element that a number is, modulo FieldSize.
func reduce(n int) element {
	n %= FieldSize
	// In Go, the remainder of a number below 0 is not above 0.
	if n < 0 {
		n += FieldSize
	}
	return element(n)
}

func (e element) plus(o element) element {
	return reduce(int(e) + int(o))
}

func (e element) minus(o element) element {
	return reduce(int(e) - int(o))
}

func (e element) times(o element) element {
	return reduce(int(e) * int(o))
}

// inverse is by the extended Euclidean algorithm; e must not be 0.
func (e element) inverse() element {
	// Throughout, each remainder is its factor times e, modulo FieldSize.
	// FieldSize is a prime, so the last remainder above 0 is 1.
	rest, next := FieldSize, int(e)
	factor, nextFactor := 0, 1
	for next > 0 {
		quotient := rest / next
		rest, next = next, rest-quotient*next
		factor, nextFactor = nextFactor, factor-quotient*nextFactor
	}
	return reduce(factor)
}

// FieldOk says whether a number is a field element.
func FieldOk(n int) bool {
	return 0 <= n && n < FieldSize
}

// FieldSum is the sum of two elements, or 0 if one of them is none.
func FieldSum(a int, b int) int {
	if !FieldOk(a) || !FieldOk(b) {
		return 0
	}
	return int(element(a).plus(element(b)))
}

// FieldDif is the first element minus the second, or 0 if one of them is none.
func FieldDif(a int, b int) int {
	if !FieldOk(a) || !FieldOk(b) {
		return 0
	}
	return int(element(a).minus(element(b)))
}

// FieldMul is the product of two elements, or 0 if one of them is none.
func FieldMul(a int, b int) int {
	if !FieldOk(a) || !FieldOk(b) {
		return 0
	}
	return int(element(a).times(element(b)))
}

// FieldInv is the element whose product with a is 1, if there is one.
func FieldInv(a int) (int, bool) {
	if !FieldOk(a) || a == 0 {
		return 0, false
	}
	return int(element(a).inverse()), true
}

package tests

import (
	"slices"
	"sync"
	"testing"

	"loop.example/scrutineer/impl"
)

// drawnPairs has both ends of the field in each place, the same element twice,
// and others in both orders.
func drawnPairs() [][2]int {
	return [][2]int{
		{0, 0}, {0, 1}, {1, 0}, {1, 1}, {0, last}, {last, 0}, {1, last}, {last, 1}, {last, last},
		{3, 4}, {4, 3}, {5, 17}, {17, 5}, {0, 7}, {7, 0}, {22, 22},
	}
}

// someFitting has vectors of TypeLen elements: the encodings, others of few
// different elements, and drawn ones.
func someFitting(kind int) [][]int {
	d := draw(kind)
	all := slices.Clone(encodings()[kind])
	forTuples(lengths()[kind], []int{0, 1, 2, last}, func(v []int) { all = append(all, slices.Clone(v)) })
	for range 20 {
		all = append(all, d.poly(lengths()[kind]))
	}
	return all
}

// forProved has each of some vectors of each type with some pairs.
func forProved(check func(kind int, v []int, u, w int)) {
	for kind := range lengths() {
		for _, v := range someFitting(kind) {
			for _, p := range drawnPairs() {
				check(kind, v, p[0], p[1])
			}
		}
	}
}

// forCorrect has every encoding with some pairs and the proof, which is not
// made by the program.
func forCorrect(check func(kind int, v []int, p impl.Proof)) {
	forEncodings(func(kind, _ int, v []int) {
		for _, p := range drawnPairs() {
			check(kind, v, proofOf(v, p[0], p[1]))
		}
	})
}

// inverseOf is found by search.
func inverseOf(n int) int {
	for i := range 31 {
		if i*n%31 == 1 {
			return i
		}
	}
	panic("0 has no inverse")
}

// timesOf is the product of two polynomials that have coefficients.
func timesOf(a, b []int) []int {
	p := make([]int, len(a)+len(b)-1)
	for i, m := range a {
		for j, n := range b {
			p[i+j] = (p[i+j] + m*n) % 31
		}
	}
	return p
}

// zeroAt has the polynomial of which the given points are the zeros.
func zeroAt(points []int) []int {
	p := []int{1}
	for _, x := range points {
		p = timesOf(p, []int{(31 - x) % 31, 1})
	}
	return p
}

// throughOf is the polynomial with values at 0, 1, and so on, by the formula of
// Lagrange, which the program does not use for this.
func throughOf(vals []int) []int {
	p := make([]int, len(vals))
	for i, val := range vals {
		var others []int
		for j := range vals {
			if j != i {
				others = append(others, j)
			}
		}
		basis := zeroAt(others)
		p = sumOf(p, timesOf(basis, []int{val * inverseOf(valueOf(basis, i)) % 31}))
	}
	return p
}

// proofOf follows the text of the document.
func proofOf(v []int, u, w int) impl.Proof {
	f, g := []int{u}, []int{w}
	for _, n := range v {
		f = append(f, n)
		g = append(g, (n+30)%31)
	}
	return impl.Proof{U: u, V: w, H: timesOf(throughOf(f), throughOf(g))}
}

// listOf is v, U, V and H.
func listOf(v []int, p impl.Proof) []int {
	return slices.Concat(v, []int{p.U, p.V}, p.H)
}

func sameProof(p, q impl.Proof) bool {
	return p.U == q.U && p.V == q.V && slices.Equal(p.H, q.H)
}

func isZeroProof(p impl.Proof) bool {
	return sameProof(p, impl.Proof{})
}

// withH is a proof with another polynomial.
func withH(p impl.Proof, h []int) impl.Proof {
	return impl.Proof{U: p.U, V: p.V, H: h}
}

// replaced is a copy with another number at a place.
func replaced(l []int, place, n int) []int {
	c := slices.Clone(l)
	c[place] = n
	return c
}

// malformed has proofs that are not well formed for vectors of a length, each
// with one fault or with several.
func malformed(many int, p impl.Proof) []impl.Proof {
	bad := []impl.Proof{{}, withH(p, nil), withH(p, []int{})}
	for _, size := range []int{1, 2, 3, 4, 5, 6, 7, 8, 9, 10, 19, impl.ShareMax, 1000} {
		if size != 2*many+1 {
			bad = append(bad, withH(p, make([]int, size)), withH(p, slices.Repeat([]int{1}, size)))
		}
	}
	for _, n := range []int{0, 1, last} {
		bad = append(bad, withH(p, slices.Concat(p.H, []int{n})), withH(p, slices.Concat([]int{n}, p.H)))
	}
	bad = append(bad, withH(p, p.H[:2*many]), withH(p, p.H[1:]), withH(p, slices.Concat(p.H, p.H)))
	for _, n := range append(notElements(), p.U+31, p.U-31, p.V+31, p.V-31) {
		bad = append(bad, impl.Proof{U: n, V: p.V, H: p.H}, impl.Proof{U: p.U, V: n, H: p.H}, impl.Proof{U: n, V: n, H: p.H})
		bad = append(bad, impl.Proof{U: n, V: p.V}, impl.Proof{U: n, V: n, H: slices.Repeat([]int{n}, 2*many+1)})
		for place := range p.H {
			bad = append(bad, withH(p, replaced(p.H, place, n)))
		}
	}
	for place, c := range p.H {
		bad = append(bad, withH(p, replaced(p.H, place, c+31)), withH(p, replaced(p.H, place, c-31)))
	}
	return bad
}

func proof(t *testing.T, kind int, v []int, u, w int) impl.Proof {
	t.Helper()
	p, ok := impl.ProofMake(kind, v, u, w)
	if !ok {
		t.Fatalf("ProofMake(%d, %v, %d, %d) fails", kind, v, u, w)
	}
	return p
}

func list(t *testing.T, kind int, v []int, p impl.Proof) []int {
	t.Helper()
	l, ok := impl.ProofAll(kind, v, p)
	if !ok {
		t.Fatalf("ProofAll(%d, %v, %v) fails", kind, v, p)
	}
	return l
}

func parts(t *testing.T, kind int, l []int) ([]int, impl.Proof) {
	t.Helper()
	v, p, ok := impl.ProofCut(kind, l)
	if !ok {
		t.Fatalf("ProofCut(%d, %v) fails", kind, l)
	}
	return v, p
}

func isCorrect(t *testing.T, kind int, v []int, p impl.Proof, want bool) {
	t.Helper()
	if got := impl.ProofOk(kind, v, p); got != want {
		t.Errorf("ProofOk(%d, %v, %v) is %t", kind, v, p, got)
	}
}

func proofFails(t *testing.T, kind int, v []int, u, w int) {
	t.Helper()
	if p, ok := impl.ProofMake(kind, v, u, w); ok || !isZeroProof(p) {
		t.Errorf("ProofMake(%d, %v, %d, %d) is %v, %t", kind, v, u, w, p, ok)
	}
}

func listFails(t *testing.T, kind int, v []int, p impl.Proof) {
	t.Helper()
	if l, ok := impl.ProofAll(kind, v, p); ok || len(l) != 0 {
		t.Errorf("ProofAll(%d, %v, %v) is %v, %t", kind, v, p, l, ok)
	}
}

func cutFails(t *testing.T, kind int, l []int) {
	t.Helper()
	if v, p, ok := impl.ProofCut(kind, l); ok || len(v) != 0 || !isZeroProof(p) {
		t.Errorf("ProofCut(%d, %v) is %v, %v, %t", kind, l, v, p, ok)
	}
}

// listLengths has how many elements the list of each type has.
func listLengths() map[int]int {
	return map[int]int{1: 6, 2: 15, 3: 12}
}

// listsOf has lists of ProofLen elements, of which only some have a correct
// proof.
func listsOf(kind int) [][]int {
	many := listLengths()[kind]
	d := draw(kind + 40)
	rising := elements()[:many]
	lists := [][]int{make([]int, many), slices.Repeat([]int{1}, many), slices.Repeat([]int{last}, many), rising, elements()[31-many:]}
	for place := range many {
		lists = append(lists, replaced(make([]int, many), place, last), replaced(rising, place, 0))
	}
	for range 50 {
		lists = append(lists, d.poly(many))
	}
	for _, v := range encodings()[kind] {
		for _, p := range drawnPairs() {
			lists = append(lists, listOf(v, proofOf(v, p[0], p[1])))
		}
	}
	return lists
}

// Chapter 12: this compiles only if the fields are those of the document.
func TestProofHasTheFieldsOfTheDocument(t *testing.T) {
	fields := struct {
		U int
		V int
		H []int
	}(impl.Proof{U: 1, V: 2, H: []int{3}})
	if fields.U != 1 || fields.V != 2 || !slices.Equal(fields.H, []int{3}) {
		t.Errorf("the fields are %v", fields)
	}
}

// Chapter 12, P39: calculated without this program.
func TestProofMakeOfExamples(t *testing.T) {
	for _, c := range []struct {
		kind int
		v    []int
		u    int
		w    int
		want []int
	}{
		{1, []int{0}, 0, 0, []int{0, 0, 0}},
		{1, []int{1}, 0, 0, []int{0, 0, 0}},
		{1, []int{1}, 3, 4, []int{12, 11, 8}},
		{1, []int{0}, 3, 4, []int{12, 4, 15}},
		{1, []int{1}, 4, 3, []int{12, 10, 9}},
		{1, []int{0}, 30, 1, []int{30, 3, 29}},
		{1, []int{2}, 0, 1, []int{0, 2, 0}},
		{1, []int{30}, 30, 30, []int{1, 1, 0}},
		{1, []int{1}, 17, 0, []int{0, 0, 0}},
		{2, []int{1, 0, 0, 0}, 0, 0, []int{0, 0, 18, 0, 30, 30, 2, 2, 11}},
		{2, []int{0, 1, 0, 0}, 1, 30, []int{30, 15, 28, 19, 22, 14, 11, 24, 23}},
		{2, []int{0, 0, 1, 0}, 5, 17, []int{23, 29, 14, 13, 27, 15, 14, 2, 18}},
		{2, []int{0, 0, 0, 1}, 17, 5, []int{23, 26, 0, 10, 3, 14, 17, 24, 7}},
		{2, []int{0, 0, 0, 0}, 0, 1, []int{0, 0, 0, 0, 0, 0, 0, 0, 0}},
		{2, []int{1, 1, 0, 0}, 2, 3, []int{6, 12, 13, 9, 29, 13, 25, 26, 22}},
		{2, []int{30, 29, 28, 27}, 26, 25, []int{30, 23, 24, 1, 25, 1, 26, 17, 10}},
		{3, []int{0, 0, 0}, 0, 0, []int{0, 0, 0, 0, 0, 0, 0}},
		{3, []int{1, 0, 1}, 5, 17, []int{23, 16, 22, 4, 21, 29, 9}},
		{3, []int{1, 1, 1}, 30, 30, []int{1, 10, 8, 18, 17, 20, 19}},
		{3, []int{1, 1, 1}, 7, 0, []int{0, 0, 0, 0, 0, 0, 0}},
		{3, []int{0, 0, 0}, 0, 7, []int{0, 0, 0, 0, 0, 0, 0}},
		{3, []int{0, 1, 1}, 1, 0, []int{0, 28, 27, 0, 17, 13, 8}},
		{3, []int{2, 3, 4}, 6, 9, []int{23, 4, 6, 3, 3, 16, 9}},
	} {
		p := proof(t, c.kind, c.v, c.u, c.w)
		if p.U != c.u || p.V != c.w || !slices.Equal(p.H, c.want) {
			t.Errorf("ProofMake(%d, %v, %d, %d) is %v, not %v", c.kind, c.v, c.u, c.w, p, c.want)
		}
		isCorrect(t, c.kind, c.v, p, valueIn(c.kind, c.v) >= 0)
	}
}

// Chapter 12, P39
func TestProofMakeOfEveryVectorOfOneElement(t *testing.T) {
	forTriples(func(n, u, w int) {
		want := proofOf([]int{n}, u, w)
		if p := proof(t, 1, []int{n}, u, w); !sameProof(p, want) {
			t.Errorf("ProofMake(1, [%d], %d, %d) is %v, not %v", n, u, w, p, want)
		}
	})
}

// Chapter 12, P39: every value with every pair.
func TestProofMakeOfEveryEncoding(t *testing.T) {
	forEncodings(func(kind, _ int, v []int) {
		forPairs(func(u, w int) {
			p, want := proof(t, kind, v, u, w), proofOf(v, u, w)
			if !sameProof(p, want) {
				t.Errorf("ProofMake(%d, %v, %d, %d) is %v, not %v", kind, v, u, w, p, want)
			}
			isCorrect(t, kind, v, p, true)
			isCorrect(t, kind, v, want, true)
		})
	})
}

// Chapter 12, P39: also of vectors that are not encodings.
func TestProofMakeIsTheProduct(t *testing.T) {
	forProved(func(kind int, v []int, u, w int) {
		p, want := proof(t, kind, v, u, w), proofOf(v, u, w)
		if !sameProof(p, want) || len(p.H) != 2*lengths()[kind]+1 {
			t.Errorf("ProofMake(%d, %v, %d, %d) is %v, not %v", kind, v, u, w, p, want)
		}
	})
}

// P39
func TestProofHasTheProductsAsValues(t *testing.T) {
	forProved(func(kind int, v []int, u, w int) {
		p := proof(t, kind, v, u, w)
		if got := impl.PolyAt(p.H, 0); got != u*w%31 || p.U != u || p.V != w {
			t.Errorf("ProofMake(%d, %v, %d, %d) is %v, which is %d at 0", kind, v, u, w, p, got)
		}
		for i, n := range v {
			if got := impl.PolyAt(p.H, i+1); got != n*(n+30)%31 {
				t.Errorf("ProofMake(%d, %v, %d, %d) is %v, which is %d at %d", kind, v, u, w, p, got, i+1)
			}
		}
	})
}

// P39
func TestProofOfAnEncodingIsZeroAtItsPoints(t *testing.T) {
	forEncodings(func(kind, val int, _ []int) {
		for _, drawn := range drawnPairs() {
			v := encoding(t, kind, val)
			p := proof(t, kind, v, drawn[0], drawn[1])
			for i := range v {
				if got := impl.PolyAt(p.H, i+1); got != 0 {
					t.Errorf("the proof %v of %v of type %d is %d at %d", p, v, kind, got, i+1)
				}
			}
			isCorrect(t, kind, v, p, true)
		}
	})
}

// Chapter 12, P39: what is drawn is not made less by 1, as the elements are.
func TestWhatIsDrawnStandsAtZero(t *testing.T) {
	for kind, many := range lengths() {
		ones := slices.Repeat([]int{1}, many)
		// g is 0 at every other point, so it is 0 with V = 0, and H with it.
		for u := range impl.FieldSize {
			if p := proof(t, kind, ones, u, 0); !slices.Equal(p.H, make([]int, 2*many+1)) {
				t.Errorf("ProofMake(%d, %v, %d, 0) is %v", kind, ones, u, p)
			}
		}
		// So is f of zeros, with U = 0.
		for w := range impl.FieldSize {
			if p := proof(t, kind, make([]int, many), 0, w); !slices.Equal(p.H, make([]int, 2*many+1)) {
				t.Errorf("ProofMake of zeros of type %d with 0 and %d is %v", kind, w, p)
			}
		}
	}
}

// Chapter 12, P39
func TestProofMakeOfVectorsThatDoNotFit(t *testing.T) {
	for kind, many := range lengths() {
		for _, v := range unfit(many) {
			proofFails(t, kind, v, 3, 4)
			proofFails(t, kind, v, 0, 0)
			proofFails(t, kind, v, -1, 4)
			proofFails(t, kind, v, 3, impl.FieldSize)
		}
	}
	forEncodings(func(kind, _ int, v []int) {
		proofFails(t, kind, v[:len(v)-1], 3, 4)
		proofFails(t, kind, v[1:], 3, 4)
		proofFails(t, kind, slices.Concat(v, []int{0}), 3, 4)
		proofFails(t, kind, slices.Concat([]int{0}, v), 3, 4)
		for other := range lengths() {
			if other != kind {
				proofFails(t, other, v, 3, 4)
			}
		}
	})
}

// Chapter 12, P39
func TestProofMakeOfInvalidRandomElements(t *testing.T) {
	for kind, many := range lengths() {
		for _, v := range append(encodings()[kind], slices.Repeat([]int{5}, many)) {
			forInvalidPairs(func(u, w int) { proofFails(t, kind, v, u, w) })
		}
	}
}

// Chapter 12, P39
func TestProofMakeOfUnknownTypes(t *testing.T) {
	for _, kind := range noKinds() {
		forEncodings(func(_, _ int, v []int) {
			proofFails(t, kind, v, 3, 4)
			proofFails(t, kind, v, -1, 31)
		})
		for _, v := range unfit(4) {
			proofFails(t, kind, v, 0, 0)
		}
	}
}

// P40, P45: of all polynomials, just one is that of the proof.
func TestProofOkOfEveryPolynomialOfThreeCoefficients(t *testing.T) {
	for _, v := range encodings()[1] {
		for _, drawn := range drawnPairs() {
			want, found := proofOf(v, drawn[0], drawn[1]), 0
			forTriples(func(a, b, c int) {
				h := []int{a, b, c}
				ok := impl.ProofOk(1, v, withH(want, h))
				if ok {
					found++
				}
				if ok != slices.Equal(h, want.H) {
					t.Errorf("ProofOk(1, %v, %v) is %t, but H is %v", v, withH(want, h), ok, want.H)
				}
			})
			if found != 1 {
				t.Errorf("%v has %d correct proofs with %v", v, found, drawn)
			}
		}
	}
}

// P40
func TestProofOkWithAChangedCoefficient(t *testing.T) {
	forCorrect(func(kind int, v []int, p impl.Proof) {
		isCorrect(t, kind, v, p, true)
		for place, c := range p.H {
			for n := range impl.FieldSize {
				isCorrect(t, kind, v, withH(p, replaced(p.H, place, n)), n == c)
			}
		}
	})
}

// P40: no value at 0 or at a point of the vector tells these from the proof.
func TestProofOkWithTheSameValuesAtThePoints(t *testing.T) {
	forCorrect(func(kind int, v []int, p impl.Proof) {
		zero := zeroAt(elements()[:len(v)+1])
		for shift := range len(v) {
			for n := 1; n <= last; n++ {
				more := timesOf(zero, append(make([]int, shift), n))
				more = append(more, make([]int, len(p.H)-len(more))...)
				isCorrect(t, kind, v, withH(p, sumOf(p.H, more)), false)
			}
		}
	})
}

// P40: a proof with other random elements may have the same polynomial, as when
// it is 0, so each is compared with the whole.
func TestProofOkWithOtherRandomElements(t *testing.T) {
	forCorrect(func(kind int, v []int, p impl.Proof) {
		for n := range impl.FieldSize {
			for _, q := range []impl.Proof{{U: n, V: p.V, H: p.H}, {U: p.U, V: n, H: p.H}} {
				isCorrect(t, kind, v, q, sameProof(q, proofOf(v, q.U, q.V)))
			}
		}
		isCorrect(t, kind, v, impl.Proof{U: p.V, V: p.U, H: p.H}, p.U == p.V)
	})
}

// P40
func TestProofOkOfTheProofOfAnotherEncoding(t *testing.T) {
	forCorrect(func(kind int, v []int, p impl.Proof) {
		for other, all := range encodings() {
			for _, w := range all {
				want := other == kind && sameProof(p, proofOf(w, p.U, p.V))
				isCorrect(t, other, w, p, want)
				if !slices.Equal(v, w) {
					isCorrect(t, kind, w, p, want)
				}
			}
		}
	})
}

// P40: the proof is that of the vector, but the vector is none of a value.
func TestProofOkOfVectorsThatAreNoEncodings(t *testing.T) {
	forProved(func(kind int, v []int, u, w int) {
		isCorrect(t, kind, v, proof(t, kind, v, u, w), ruleHolds(kind, v))
	})
	forTriples(func(n, u, w int) {
		isCorrect(t, 1, []int{n}, proof(t, 1, []int{n}, u, w), n <= 1)
	})
	// Each element of these is 0 or 1, so H is 0 at every point of the vector.
	forTuples(4, []int{0, 1}, func(v []int) {
		forPairs(func(u, w int) {
			isCorrect(t, 2, v, proof(t, 2, v, u, w), valueIn(2, v) >= 0)
		})
	})
}

// P40: an encoding's own proof does not help a vector that is not it.
func TestProofOkOfVectorsThatDoNotFit(t *testing.T) {
	for kind, many := range lengths() {
		bad := unfit(many)
		for _, e := range encodings()[kind] {
			bad = append(bad, e[1:], e[:many-1], slices.Concat(e, []int{0}), slices.Concat([]int{0}, e))
			for place, n := range e {
				bad = append(bad, replaced(e, place, n+31), replaced(e, place, n-31))
			}
		}
		for _, e := range encodings()[kind] {
			for _, p := range []impl.Proof{proofOf(e, 3, 4), proofOf(e, 0, 0), {}, {U: -1, V: 31}} {
				for _, v := range bad {
					isCorrect(t, kind, v, p, false)
				}
			}
		}
	}
}

// P40
func TestProofOkOfMalformedProofs(t *testing.T) {
	forCorrect(func(kind int, v []int, p impl.Proof) {
		for _, q := range malformed(len(v), p) {
			isCorrect(t, kind, v, q, false)
		}
	})
}

// P40: a coefficient of 0 at the end counts.
func TestProofOkOfAZeroPolynomialOfAnotherLength(t *testing.T) {
	for kind, v := range map[int][]int{1: {0}, 3: {0, 0, 0}} {
		for size := range impl.ShareMax {
			isCorrect(t, kind, v, impl.Proof{U: 0, V: 7, H: make([]int, size)}, size == 2*len(v)+1)
		}
	}
}

// P40
func TestProofOkOfUnknownTypes(t *testing.T) {
	for _, kind := range noKinds() {
		forEncodings(func(_, _ int, v []int) {
			isCorrect(t, kind, v, proofOf(v, 3, 4), false)
			isCorrect(t, kind, v, impl.Proof{}, false)
			isCorrect(t, kind, v, impl.Proof{U: -1, V: 31, H: []int{99}}, false)
		})
		for _, v := range [][]int{nil, {}, {-1}} {
			// With a TypeLen of 0, the polynomial would have one coefficient.
			for n := range impl.FieldSize {
				isCorrect(t, kind, v, impl.Proof{U: 1, V: n, H: []int{n}}, false)
			}
			isCorrect(t, kind, v, impl.Proof{}, false)
		}
	}
}

// P41
func TestProofCutOfProofAll(t *testing.T) {
	forProved(func(kind int, v []int, u, w int) {
		p := proof(t, kind, v, u, w)
		l := list(t, kind, v, p)
		if len(l) != impl.ProofLen(kind) || len(l) != listLengths()[kind] {
			t.Errorf("ProofAll(%d, %v, %v) is %v", kind, v, p, l)
		}
		gotV, gotP := parts(t, kind, l)
		if !slices.Equal(gotV, v) || !sameProof(gotP, p) {
			t.Errorf("ProofCut of ProofAll(%d, %v, %v) is %v, %v", kind, v, p, gotV, gotP)
		}
	})
}

// P41: a proof need not be correct.
func TestProofAllOfOtherProofs(t *testing.T) {
	d := draw(41)
	for kind, many := range lengths() {
		for _, v := range someFitting(kind) {
			polys := [][]int{make([]int, 2*many+1), slices.Repeat([]int{last}, 2*many+1), d.poly(2*many + 1)}
			for _, h := range polys {
				p := impl.Proof{U: d.element(), V: d.element(), H: h}
				l := list(t, kind, v, p)
				if !slices.Equal(l, listOf(v, p)) {
					t.Errorf("ProofAll(%d, %v, %v) is %v", kind, v, p, l)
				}
				if gotV, gotP := parts(t, kind, l); !slices.Equal(gotV, v) || !sameProof(gotP, p) {
					t.Errorf("ProofCut of ProofAll(%d, %v, %v) is %v, %v", kind, v, p, gotV, gotP)
				}
			}
		}
	}
}

// Chapter 12, P41
func TestProofAllOfExamples(t *testing.T) {
	for _, c := range []struct {
		kind int
		v    []int
		p    impl.Proof
		want []int
	}{
		{1, []int{1}, impl.Proof{U: 3, V: 4, H: []int{12, 11, 8}}, []int{1, 3, 4, 12, 11, 8}},
		{1, []int{0}, impl.Proof{H: []int{0, 0, 0}}, []int{0, 0, 0, 0, 0, 0}},
		{1, []int{30}, impl.Proof{U: 30, V: 30, H: []int{30, 30, 30}}, []int{30, 30, 30, 30, 30, 30}},
		{2, []int{1, 2, 3, 4}, impl.Proof{U: 5, V: 6, H: []int{7, 8, 9, 10, 11, 12, 13, 14, 15}}, []int{1, 2, 3, 4, 5, 6, 7, 8, 9, 10, 11, 12, 13, 14, 15}},
		{3, []int{30, 29, 28}, impl.Proof{U: 27, V: 26, H: []int{25, 24, 23, 22, 21, 20, 19}}, []int{30, 29, 28, 27, 26, 25, 24, 23, 22, 21, 20, 19}},
	} {
		if got := list(t, c.kind, c.v, c.p); !slices.Equal(got, c.want) {
			t.Errorf("ProofAll(%d, %v, %v) is %v, not %v", c.kind, c.v, c.p, got, c.want)
		}
		if v, p := parts(t, c.kind, c.want); !slices.Equal(v, c.v) || !sameProof(p, c.p) {
			t.Errorf("ProofCut(%d, %v) is %v, %v", c.kind, c.want, v, p)
		}
	}
}

// Chapter 12, P41
func TestProofAllOfVectorsThatDoNotFit(t *testing.T) {
	for kind, many := range lengths() {
		p := proofOf(encodings()[kind][0], 3, 4)
		for _, v := range unfit(many) {
			listFails(t, kind, v, p)
			listFails(t, kind, v, impl.Proof{})
			listFails(t, kind, v, impl.Proof{U: -1, V: 31, H: []int{99}})
			// Together as many as a list has, or of the length for this vector.
			if more := 2*len(v) + 1; more <= impl.PolyMax {
				listFails(t, kind, v, impl.Proof{H: make([]int, more)})
			}
			if rest := listLengths()[kind] - 2 - len(v); rest > 0 {
				listFails(t, kind, v, impl.Proof{H: make([]int, rest)})
			}
		}
	}
	forCorrect(func(kind int, v []int, p impl.Proof) {
		for other := range lengths() {
			if other != kind {
				listFails(t, other, v, p)
			}
		}
	})
}

// Chapter 12, P41
func TestProofAllOfMalformedProofs(t *testing.T) {
	forProved(func(kind int, v []int, u, w int) {
		if u == 3 || u == 0 && w == 0 {
			for _, q := range malformed(len(v), proofOf(v, u, w)) {
				listFails(t, kind, v, q)
			}
		}
	})
}

// Chapter 12, P41
func TestProofAllOfUnknownTypes(t *testing.T) {
	for _, kind := range noKinds() {
		forEncodings(func(_, _ int, v []int) {
			listFails(t, kind, v, proofOf(v, 3, 4))
			listFails(t, kind, v, impl.Proof{U: 31, V: -1})
		})
		for _, v := range [][]int{nil, {}, {-1}} {
			// With a TypeLen of 0, the polynomial would have one coefficient.
			listFails(t, kind, v, impl.Proof{H: []int{0}})
			listFails(t, kind, v, impl.Proof{U: 1, V: 2, H: []int{2}})
			listFails(t, kind, v, impl.Proof{})
		}
	}
}

// P42
func TestProofAllOfProofCut(t *testing.T) {
	for kind, many := range lengths() {
		for _, l := range listsOf(kind) {
			v, p := parts(t, kind, l)
			if !slices.Equal(v, l[:many]) || p.U != l[many] || p.V != l[many+1] || !slices.Equal(p.H, l[many+2:]) {
				t.Errorf("ProofCut(%d, %v) is %v, %v", kind, l, v, p)
			}
			if got := list(t, kind, v, p); !slices.Equal(got, l) {
				t.Errorf("ProofAll of ProofCut(%d, %v) is %v", kind, l, got)
			}
		}
	}
}

// P42
func TestProofCutOfListsOfOtherLengths(t *testing.T) {
	for kind, many := range listLengths() {
		for _, n := range []int{0, 1, last} {
			for size := range 40 {
				l := slices.Repeat([]int{n}, size)
				if size == many {
					parts(t, kind, l)
				} else {
					cutFails(t, kind, l)
				}
			}
			cutFails(t, kind, slices.Repeat([]int{n}, 1000))
		}
		cutFails(t, kind, nil)
		for _, l := range listsOf(kind) {
			cutFails(t, kind, l[:many-1])
			cutFails(t, kind, l[1:])
			cutFails(t, kind, slices.Concat(l, []int{0}))
			cutFails(t, kind, slices.Concat([]int{0}, l))
			cutFails(t, kind, slices.Concat(l, l))
			for other := range lengths() {
				if other != kind {
					cutFails(t, other, l)
				}
			}
		}
	}
}

// P42: what is beyond the length of a list is none of its elements.
func TestProofCutCountsOnlyTheLength(t *testing.T) {
	for kind, many := range listLengths() {
		for _, l := range listsOf(kind) {
			long := withSpare(l)
			v, p := parts(t, kind, long)
			if !slices.Equal(listOf(v, p), l) {
				t.Errorf("ProofCut(%d, %v) is %v, %v", kind, l, v, p)
			}
			cutFails(t, kind, long[:many-1])
			cutFails(t, kind, long[:many+1])
		}
	}
}

// P42
func TestProofCutOfInvalidLists(t *testing.T) {
	for kind, many := range listLengths() {
		for _, n := range notElements() {
			cutFails(t, kind, slices.Repeat([]int{n}, many))
			cutFails(t, kind, slices.Repeat([]int{n}, many-1))
			for _, l := range listsOf(kind) {
				for place := range many {
					cutFails(t, kind, replaced(l, place, n))
				}
			}
		}
		for _, l := range listsOf(kind) {
			for place, n := range l {
				cutFails(t, kind, replaced(l, place, n+31))
				cutFails(t, kind, replaced(l, place, n-31))
			}
		}
	}
}

// P42
func TestProofCutOfUnknownTypes(t *testing.T) {
	for _, kind := range noKinds() {
		cutFails(t, kind, nil)
		for size := range 40 {
			cutFails(t, kind, make([]int, size))
			cutFails(t, kind, slices.Repeat([]int{1}, size))
			cutFails(t, kind, slices.Repeat([]int{-1}, size))
		}
		for known := range lengths() {
			for _, l := range listsOf(known) {
				cutFails(t, kind, l)
			}
		}
	}
}

// P43
func TestProofLenOfEachType(t *testing.T) {
	for kind, want := range listLengths() {
		got := impl.ProofLen(kind)
		if got != want || got != 3*impl.TypeLen(kind)+3 || got > impl.ShareMax {
			t.Errorf("ProofLen(%d) is %d, not %d", kind, got, want)
		}
	}
}

// P43
func TestProofLenOfUnknownTypes(t *testing.T) {
	for _, kind := range noKinds() {
		if got := impl.ProofLen(kind); got != 0 {
			t.Errorf("ProofLen(%d) is %d", kind, got)
		}
	}
}

// P44
func TestProofsWithTwoPairsHaveTheSameValues(t *testing.T) {
	for kind := range lengths() {
		for _, v := range someFitting(kind) {
			for _, one := range drawnPairs() {
				for _, two := range drawnPairs() {
					p, q := proof(t, kind, v, one[0], one[1]), proof(t, kind, v, two[0], two[1])
					if impl.PolyAt(p.H, 0) != one[0]*one[1]%31 || impl.PolyAt(q.H, 0) != two[0]*two[1]%31 {
						t.Errorf("the proofs %v and %v of %v have another product at 0", p, q, v)
					}
					for i := range v {
						if impl.PolyAt(p.H, i+1) != impl.PolyAt(q.H, i+1) {
							t.Errorf("the proofs %v and %v of %v differ at %d", p, q, v, i+1)
						}
					}
				}
			}
		}
	}
}

// P44: every pair, for every value of each type.
func TestProofsOfAnEncodingDifferAtZeroAlone(t *testing.T) {
	forEncodings(func(kind, _ int, v []int) {
		first := proof(t, kind, v, 3, 4)
		forPairs(func(u, w int) {
			p := proof(t, kind, v, u, w)
			if impl.PolyAt(p.H, 0) != u*w%31 {
				t.Errorf("the proof %v of %v has another product at 0", p, v)
			}
			for i := range v {
				if impl.PolyAt(p.H, i+1) != impl.PolyAt(first.H, i+1) {
					t.Errorf("the proofs %v and %v of %v differ at %d", p, first, v, i+1)
				}
			}
		})
	})
}

// otherPolys has polynomials with as many coefficients as that of a proof: its
// neighbours, its reverse, those of other pairs and of other encodings, and
// drawn ones. It itself is among them more than once.
func otherPolys(kind int, v []int, p impl.Proof) [][]int {
	d := draw(45)
	reverse := slices.Clone(p.H)
	slices.Reverse(reverse)
	polys := [][]int{p.H, slices.Clone(p.H), reverse, make([]int, len(p.H))}
	for place, c := range p.H {
		polys = append(polys, replaced(p.H, place, (c+1)%31), replaced(p.H, place, (c+30)%31), replaced(p.H, place, 0))
	}
	for _, drawn := range drawnPairs() {
		polys = append(polys, proofOf(v, drawn[0], drawn[1]).H)
	}
	for _, w := range encodings()[kind] {
		polys = append(polys, proofOf(w, p.U, p.V).H, proofOf(w, p.V, p.U).H)
	}
	for range 100 {
		polys = append(polys, d.poly(len(p.H)))
	}
	return polys
}

// P45
func TestCorrectProofsWithTheSamePairAreEqual(t *testing.T) {
	forCorrect(func(kind int, v []int, p impl.Proof) {
		var correct []impl.Proof
		for _, h := range otherPolys(kind, v, p) {
			if q := withH(p, h); impl.ProofOk(kind, v, q) {
				correct = append(correct, q)
			}
		}
		if len(correct) < 2 {
			t.Errorf("%v of type %d has the correct proofs %v", v, kind, correct)
		}
		for _, q := range correct {
			if !sameProof(q, proof(t, kind, v, p.U, p.V)) || !sameProof(q, correct[0]) {
				t.Errorf("%v and %v are correct proofs of %v", q, correct[0], v)
			}
		}
	})
}

// proving is a function of chapter 12 with a vector or list and a proof, and
// all its slices.
type proving struct {
	name string
	call func(kind int, v []int, p impl.Proof) [][]int
}

func provings() []proving {
	return []proving{
		{"ProofMake", func(kind int, v []int, p impl.Proof) [][]int {
			q, _ := impl.ProofMake(kind, v, p.U, p.V)
			return [][]int{q.H}
		}},
		{"ProofOk", func(kind int, v []int, p impl.Proof) [][]int {
			impl.ProofOk(kind, v, p)
			return nil
		}},
		{"ProofAll", func(kind int, v []int, p impl.Proof) [][]int {
			l, _ := impl.ProofAll(kind, v, p)
			return [][]int{l}
		}},
		{"ProofCut", func(kind int, v []int, p impl.Proof) [][]int {
			w, q, _ := impl.ProofCut(kind, v)
			return [][]int{w, q.H}
		}},
	}
}

// forProvings has each function with valid vectors, lists and proofs, and with
// ones that are not.
func forProvings(check func(f proving, kind int, v []int, p impl.Proof)) {
	for _, f := range provings() {
		for kind, many := range lengths() {
			good := proofOf(encodings()[kind][1], 5, 17)
			all := slices.Concat(someFitting(kind), listsOf(kind), unfit(many))
			for _, v := range all {
				check(f, kind, v, good)
			}
			for _, p := range malformed(many, good) {
				check(f, kind, encodings()[kind][1], p)
			}
			check(f, 0, nil, impl.Proof{H: []int{0}})
			check(f, 4, encodings()[kind][1], good)
			check(f, -1, listsOf(kind)[0], good)
		}
	}
}

// General rules: an argument keeps its elements and those beyond its length,
// and no result has memory of an argument.
func TestProofFunctionsChangeNoArgument(t *testing.T) {
	forProvings(func(f proving, kind int, v []int, p impl.Proof) {
		arg, given := withSpare(v), withH(p, withSpare(p.H))
		beforeArg, beforeH := slices.Clone(whole(arg)), slices.Clone(whole(given.H))
		results := f.call(kind, arg, given)
		if !slices.Equal(whole(arg), beforeArg) || !slices.Equal(whole(given.H), beforeH) {
			t.Fatalf("%s(%d, %v, %v) changes an argument", f.name, kind, v, p)
		}
		for _, r := range results {
			overwrite(r)
		}
		if !slices.Equal(whole(arg), beforeArg) || !slices.Equal(whole(given.H), beforeH) {
			t.Fatalf("a result of %s(%d, %v, %v) shares memory with an argument", f.name, kind, v, p)
		}
	})
}

// shareMemory says whether slices have memory in common, also beyond their
// lengths. It overwrites each with an element of its own, as memory that several
// calls return has been overwritten before.
func shareMemory[T int | string](results [][]T) bool {
	for i, r := range results {
		own := as[T](1000 + i)
		for place := range whole(r) {
			whole(r)[place] = own
		}
	}
	for i, r := range results {
		own := as[T](1000 + i)
		if slices.ContainsFunc(whole(r), func(e T) bool { return e != own }) {
			return true
		}
	}
	return false
}

// General rules: also beyond their lengths, and if the call fails.
func TestProofResultsShareNoMemory(t *testing.T) {
	forProvings(func(f proving, kind int, v []int, p impl.Proof) {
		if shareMemory(slices.Concat(f.call(kind, v, p), f.call(kind, v, p))) {
			t.Fatalf("results of %s(%d, %v, %v) share memory", f.name, kind, v, p)
		}
	})
}

// General rules, P41: the vector and H of ProofCut can both be extended.
func TestPartsOfAListCanBeExtended(t *testing.T) {
	for kind, many := range lengths() {
		for _, l := range listsOf(kind) {
			given := withSpare(l)
			v, p := parts(t, kind, given)
			_, _ = append(v, 9, 9, 9), append(p.H, 8, 8, 8)
			if !slices.Equal(v, l[:many]) || !slices.Equal(p.H, l[many+2:]) || !slices.Equal(given, l) {
				t.Fatalf("the parts of %v of type %d become %v and %v", l, kind, v, p)
			}
		}
	}
}

// General rules: a vector and H may be parts of one slice.
func TestProofFunctionsOfPartsOfOneSlice(t *testing.T) {
	for kind, many := range lengths() {
		for _, l := range listsOf(kind) {
			given := slices.Clone(l)
			v, p := given[:many], impl.Proof{U: l[many], V: l[many+1], H: given[many+2:]}
			isCorrect(t, kind, v, p, ruleHolds(kind, v) && sameProof(p, proofOf(v, p.U, p.V)))
			if got := list(t, kind, v, p); !slices.Equal(got, l) {
				t.Errorf("ProofAll(%d, %v, %v) is %v", kind, v, p, got)
			}
			if got := proof(t, kind, v, p.U, p.V); !sameProof(got, proofOf(v, p.U, p.V)) {
				t.Errorf("ProofMake(%d, %v, %d, %d) is %v", kind, v, p.U, p.V, got)
			}
			if !slices.Equal(given, l) {
				t.Fatalf("%v of type %d becomes %v", l, kind, given)
			}
		}
	}
}

// General rules: no proof, vector or list is kept to tell it by.
func TestProofFunctionsReadTheirArgumentsAnew(t *testing.T) {
	v, h, l := make([]int, 3), make([]int, 7), make([]int, 12)
	for range 2 {
		for _, e := range encodings()[3] {
			want := proofOf(e, 5, 17)
			copy(v, e)
			copy(h, want.H)
			copy(l, listOf(e, want))
			isCorrect(t, 3, v, withH(want, h), true)
			if got := list(t, 3, v, withH(want, h)); !slices.Equal(got, l) {
				t.Errorf("ProofAll(3, %v, %v) is %v", v, want, got)
			}
			if gotV, gotP := parts(t, 3, l); !slices.Equal(gotV, e) || !sameProof(gotP, want) {
				t.Errorf("ProofCut(3, %v) is %v, %v", l, gotV, gotP)
			}
			h[6] = (h[6] + 1) % 31
			isCorrect(t, 3, v, withH(want, h), false)
			v[1], l[11] = 31, -1
			listFails(t, 3, v, want)
			proofFails(t, 3, v, 5, 17)
			cutFails(t, 3, l)
		}
	}
}

// General rules: calls at the same time keep no state.
func TestProofFunctionsAtTheSameTime(t *testing.T) {
	var callers sync.WaitGroup
	for range 8 {
		callers.Go(func() {
			forCorrect(func(kind int, v []int, want impl.Proof) {
				p, made := impl.ProofMake(kind, v, want.U, want.V)
				l, joined := impl.ProofAll(kind, v, p)
				w, q, cut := impl.ProofCut(kind, l)
				if !made || !joined || !cut || !sameProof(p, want) || !sameProof(q, want) || !slices.Equal(w, v) || !impl.ProofOk(kind, w, q) {
					t.Errorf("ProofMake(%d, %v, %d, %d) is %v, %t", kind, v, want.U, want.V, p, made)
				}
			})
		})
	}
	callers.Wait()
}

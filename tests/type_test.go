package tests

import (
	"slices"
	"sync"
	"testing"

	"loop.example/scrutineer/impl"
)

// encodings has those of the values 0, 1, and so on of each type, written out
// by hand.
func encodings() map[int][][]int {
	return map[int][][]int{
		1: {{0}, {1}},
		2: {{1, 0, 0, 0}, {0, 1, 0, 0}, {0, 0, 1, 0}, {0, 0, 0, 1}},
		3: {{0, 0, 0}, {1, 0, 0}, {0, 1, 0}, {1, 1, 0}, {0, 0, 1}, {1, 0, 1}, {0, 1, 1}, {1, 1, 1}},
	}
}

// lengths has how many elements the encodings of each type have.
func lengths() map[int]int {
	return map[int]int{1: 1, 2: 4, 3: 3}
}

func forEncodings(check func(kind, val int, v []int)) {
	for kind, all := range encodings() {
		for val, v := range all {
			check(kind, val, v)
		}
	}
}

// noKinds has numbers of no type, some of which end as one does, in digits or
// in bits.
func noKinds() []int {
	bad := append(outside(3), 0)
	for kind := 1; kind <= 3; kind++ {
		for _, more := range []int{100, 1000, 1000000, 1 << 8, 1 << 16, 1 << 31, 1 << 32, 1 << 62} {
			bad = append(bad, kind+more, kind-more, -kind)
		}
	}
	return bad
}

// forTuples has every vector of a length whose elements are some numbers; it
// is overwritten after the call.
func forTuples(many int, numbers []int, check func(v []int)) {
	v := make([]int, many)
	var from func(place int)
	from = func(place int) {
		if place == many {
			check(v)
			return
		}
		for _, n := range numbers {
			v[place] = n
			from(place + 1)
		}
	}
	from(0)
}

func elements() []int {
	all := make([]int, impl.FieldSize)
	for n := range all {
		all[n] = n
	}
	return all
}

// forFitting has every vector of TypeLen elements of each type.
func forFitting(check func(kind int, v []int)) {
	for kind, many := range lengths() {
		forTuples(many, elements(), func(v []int) { check(kind, v) })
	}
}

// unfit has vectors that do not consist of many elements: the empty one, some
// of all other lengths, encodings of other types among them, and some with one
// number or all numbers that are no elements.
func unfit(many int) [][]int {
	bad := [][]int{nil, {}}
	for size := range 7 {
		if size != many {
			forTuples(size, []int{0, 1, last}, func(v []int) { bad = append(bad, slices.Clone(v)) })
		}
	}
	for _, size := range []int{impl.PolyMax, impl.ShareMax, impl.ShareMax + 1, impl.FieldSize, 1000} {
		bad = append(bad, make([]int, size), slices.Repeat([]int{1}, size))
	}
	for _, n := range notElements() {
		bad = append(bad, slices.Repeat([]int{n}, many), slices.Repeat([]int{n}, many+1))
		for place := range many {
			for _, rest := range []int{0, 1, 7} {
				v := slices.Repeat([]int{rest}, many)
				v[place] = n
				bad = append(bad, v)
			}
		}
	}
	return bad
}

// valueIn is the value of which a vector is the encoding, or -1.
func valueIn(kind int, v []int) int {
	return slices.IndexFunc(encodings()[kind], func(e []int) bool { return slices.Equal(e, v) })
}

// ruleHolds says whether a vector is as P32 says that encodings are.
func ruleHolds(kind int, v []int) bool {
	if len(v) != lengths()[kind] {
		return false
	}
	ones := 0
	for _, n := range v {
		if n != 0 && n != 1 {
			return false
		}
		ones += n
	}
	return kind != 2 || ones == 1
}

// checkOf is the formula of the document, in integers until the end.
func checkOf(kind int, v []int, w int) int {
	total, power, sum := 0, 1, 0
	for _, n := range v {
		total += power * n * (n + 30)
		power = power * w % 31
		sum += n
	}
	if kind == 2 {
		total += power * (sum + 30)
	}
	return total % 31
}

func encoding(t *testing.T, kind, val int) []int {
	t.Helper()
	v, ok := impl.TypeMake(kind, val)
	if !ok {
		t.Fatalf("TypeMake(%d, %d) fails", kind, val)
	}
	return v
}

func makeFails(t *testing.T, kind, val int) {
	t.Helper()
	if got, ok := impl.TypeMake(kind, val); ok || len(got) != 0 {
		t.Errorf("TypeMake(%d, %d) is %v, %t", kind, val, got, ok)
	}
}

func isNoEncoding(t *testing.T, kind int, v []int) {
	t.Helper()
	if impl.TypeOk(kind, v) {
		t.Errorf("TypeOk(%d, %v) is true", kind, v)
	}
	if val, ok := impl.TypeVal(kind, v); ok || val != 0 {
		t.Errorf("TypeVal(%d, %v) is %d, %t", kind, v, val, ok)
	}
}

func checkIsOne(t *testing.T, kind int, v []int, drawn int) {
	t.Helper()
	if got := impl.TypeCheck(kind, v, drawn); got != 1 {
		t.Errorf("TypeCheck(%d, %v, %d) is %d", kind, v, drawn, got)
	}
}

// Chapter 11
func TestKindsAreThoseOfTheDocument(t *testing.T) {
	if impl.KindBit != 1 || impl.KindPick != 2 || impl.KindNum != 3 {
		t.Errorf("the types are %d, %d and %d", impl.KindBit, impl.KindPick, impl.KindNum)
	}
}

// P29
func TestTypeLenOfEachType(t *testing.T) {
	for kind, want := range lengths() {
		if got := impl.TypeLen(kind); got != want {
			t.Errorf("TypeLen(%d) is %d, not %d", kind, got, want)
		}
	}
}

// P29
func TestTypeLenOfUnknownTypes(t *testing.T) {
	for _, kind := range noKinds() {
		if got := impl.TypeLen(kind); got != 0 {
			t.Errorf("TypeLen(%d) is %d", kind, got)
		}
	}
}

// P29
func TestEncodingsHaveTypeLenElements(t *testing.T) {
	forEncodings(func(kind, val int, v []int) {
		got := encoding(t, kind, val)
		if len(got) != impl.TypeLen(kind) || len(got) != lengths()[kind] {
			t.Errorf("TypeMake(%d, %d) is %v, but TypeLen is %d", kind, val, got, impl.TypeLen(kind))
		}
	})
}

// Chapter 11, P36
func TestTypeMakeOfEveryValue(t *testing.T) {
	forEncodings(func(kind, val int, v []int) {
		if got := encoding(t, kind, val); !slices.Equal(got, v) {
			t.Errorf("TypeMake(%d, %d) is %v, not %v", kind, val, got, v)
		}
	})
}

// Chapter 11, P30
func TestTypeValOfEveryEncoding(t *testing.T) {
	forEncodings(func(kind, val int, v []int) {
		if got, ok := impl.TypeVal(kind, v); !ok || got != val {
			t.Errorf("TypeVal(%d, %v) is %d, %t", kind, v, got, ok)
		}
		if !impl.TypeOk(kind, v) {
			t.Errorf("TypeOk(%d, %v) is false", kind, v)
		}
	})
}

// P30
func TestTypeValOfTypeMakeIsTheValue(t *testing.T) {
	forEncodings(func(kind, val int, _ []int) {
		made := encoding(t, kind, val)
		if got, ok := impl.TypeVal(kind, made); !ok || got != val {
			t.Errorf("TypeVal(%d, %v) is %d, %t, not %d", kind, made, got, ok, val)
		}
		if !impl.TypeOk(kind, made) {
			t.Errorf("TypeOk(%d, %v) is false", kind, made)
		}
	})
}

// P31
func TestTypeMakeOfTypeValIsTheEncoding(t *testing.T) {
	forFitting(func(kind int, v []int) {
		val, ok := impl.TypeVal(kind, v)
		if !ok {
			return
		}
		if made := encoding(t, kind, val); !slices.Equal(made, v) {
			t.Errorf("TypeVal(%d, %v) is %d, but TypeMake of that is %v", kind, v, val, made)
		}
	})
}

// P31: so many vectors have a value as there are values, and no others.
func TestTypeValOfEveryVector(t *testing.T) {
	many := map[int]int{}
	forFitting(func(kind int, v []int) {
		val, ok := impl.TypeVal(kind, v)
		if ok {
			many[kind]++
		}
		// Most vectors are none by a glance, which saves the search for them.
		want := -1
		if slices.Max(v) <= 1 {
			want = valueIn(kind, v)
		}
		if ok != (want >= 0) || val != max(want, 0) {
			t.Errorf("TypeVal(%d, %v) is %d, %t", kind, v, val, ok)
		}
	})
	for kind, all := range encodings() {
		if many[kind] != len(all) {
			t.Errorf("%d vectors have a value of type %d", many[kind], kind)
		}
	}
}

// P32
func TestTypeOkOfEveryVector(t *testing.T) {
	forFitting(func(kind int, v []int) {
		if got, want := impl.TypeOk(kind, v), ruleHolds(kind, v); got != want {
			t.Errorf("TypeOk(%d, %v) is %t", kind, v, got)
		}
	})
}

// P31, P32
func TestVectorsThatDoNotFitAreNoEncodings(t *testing.T) {
	for kind, many := range lengths() {
		for _, v := range unfit(many) {
			isNoEncoding(t, kind, v)
		}
	}
}

// P31, P32
func TestEncodingsWithOneElementFewerOrMore(t *testing.T) {
	forEncodings(func(kind, _ int, v []int) {
		isNoEncoding(t, kind, v[:len(v)-1])
		isNoEncoding(t, kind, v[1:])
		for _, n := range []int{0, 1, last, -1} {
			isNoEncoding(t, kind, slices.Concat(v, []int{n}))
			isNoEncoding(t, kind, slices.Concat([]int{n}, v))
		}
		isNoEncoding(t, kind, slices.Concat(v, v))
	})
}

// P31, P32: what is beyond the length of a vector is none of its elements.
func TestSpareElementsDoNotCount(t *testing.T) {
	forEncodings(func(kind, val int, v []int) {
		longer := slices.Concat(v, []int{7, 1, 0})[:len(v)]
		if got, ok := impl.TypeVal(kind, longer); !ok || got != val || !impl.TypeOk(kind, longer) {
			t.Errorf("TypeVal(%d, %v) is %d, %t", kind, longer, got, ok)
		}
		isNoEncoding(t, kind, v[:len(v)-1])
		checkIsOne(t, kind, v[:len(v)-1], 3)
	})
}

// P31, P32
func TestEncodingsWithOneElementThatIsNone(t *testing.T) {
	forEncodings(func(kind, _ int, v []int) {
		for place := range v {
			for _, n := range append(notElements(), 2, 3, last-1, last) {
				w := slices.Clone(v)
				w[place] = n
				isNoEncoding(t, kind, w)
			}
		}
	})
}

// P31, P32
func TestPicksOfNoneOrOfSeveral(t *testing.T) {
	forTuples(4, []int{0, 1}, func(v []int) {
		if valueIn(2, v) < 0 {
			isNoEncoding(t, 2, v)
		}
	})
	for _, v := range [][]int{{0, 0, 0, 0}, {1, 1, 0, 0}, {1, 0, 1, 0}, {1, 0, 0, 1}, {0, 1, 1, 0}, {0, 1, 0, 1}, {0, 0, 1, 1}} {
		isNoEncoding(t, 2, v)
	}
}

// P31, P32: such vectors have the sum of an encoding, but not its elements.
func TestPicksOfOtherElementsWithSumOne(t *testing.T) {
	for n := 2; n <= last; n++ {
		for place := range 4 {
			for other := range 4 {
				if place != other {
					v := make([]int, 4)
					v[place], v[other] = n, impl.FieldSize+1-n
					isNoEncoding(t, 2, v)
				}
			}
		}
	}
	isNoEncoding(t, 2, []int{2, -1, 0, 0})
	isNoEncoding(t, 2, []int{impl.FieldSize, 1, 0, 0})
	isNoEncoding(t, 2, []int{1, impl.FieldSize, -impl.FieldSize, 0})
}

// P30, P31, P32
func TestVectorsOfUnknownTypes(t *testing.T) {
	for _, kind := range noKinds() {
		forEncodings(func(_, _ int, v []int) { isNoEncoding(t, kind, v) })
		for _, v := range unfit(4) {
			isNoEncoding(t, kind, v)
		}
	}
}

// Chapter 11
func TestEncodingsOfOneTypeAreNoneOfAnother(t *testing.T) {
	forEncodings(func(kind, _ int, v []int) {
		for other := range lengths() {
			if other != kind {
				isNoEncoding(t, other, v)
				checkIsOne(t, other, v, 2)
			}
		}
	})
}

// P33
func TestTypeCheckOfEncodingsIsZero(t *testing.T) {
	forEncodings(func(kind, val int, v []int) {
		for w := range impl.FieldSize {
			if got := impl.TypeCheck(kind, v, w); got != 0 {
				t.Errorf("TypeCheck(%d, %v, %d) is %d", kind, v, w, got)
			}
			if got := impl.TypeCheck(kind, encoding(t, kind, val), w); got != 0 {
				t.Errorf("TypeCheck(%d, TypeMake(%d, %d), %d) is %d", kind, kind, val, w, got)
			}
		}
	})
}

// Chapter 11: calculated without this program.
func TestTypeCheckOfExamples(t *testing.T) {
	for _, c := range []struct {
		kind int
		v    []int
		w    int
		want int
	}{
		{1, []int{2}, 9, 2}, {1, []int{2}, 0, 2}, {1, []int{7}, 3, 11}, {1, []int{30}, 30, 2}, {1, []int{15}, 1, 24},
		{2, []int{1, 1, 0, 0}, 0, 0}, {2, []int{1, 1, 0, 0}, 1, 1}, {2, []int{0, 1, 0, 1}, 2, 16}, {2, []int{0, 0, 1, 1}, 3, 19},
		{2, []int{1, 1, 1, 0}, 2, 1}, {2, []int{1, 1, 1, 1}, 1, 3}, {2, []int{1, 1, 1, 1}, 30, 3},
		{2, []int{0, 0, 0, 0}, 0, 0}, {2, []int{0, 0, 0, 0}, 1, 30}, {2, []int{0, 0, 0, 0}, 2, 15},
		{2, []int{2, 30, 0, 0}, 0, 2}, {2, []int{2, 30, 0, 0}, 1, 4}, {2, []int{2, 30, 0, 0}, 2, 6}, {2, []int{0, 0, 30, 2}, 2, 24},
		{2, []int{2, 0, 0, 0}, 1, 3}, {2, []int{30, 30, 30, 30}, 1, 3},
		{3, []int{2, 3, 4}, 0, 2}, {3, []int{2, 3, 4}, 1, 20}, {3, []int{2, 3, 4}, 2, 0}, {3, []int{2, 3, 4}, 3, 4},
		{3, []int{0, 2, 0}, 0, 0}, {3, []int{0, 2, 0}, 1, 2}, {3, []int{0, 2, 0}, 30, 29}, {3, []int{1, 1, 2}, 5, 19},
	} {
		if got := impl.TypeCheck(c.kind, c.v, c.w); got != c.want {
			t.Errorf("TypeCheck(%d, %v, %d) is %d, not %d", c.kind, c.v, c.w, got, c.want)
		}
	}
}

// Chapter 11, P34
func TestTypeCheckOfEveryVector(t *testing.T) {
	forFitting(func(kind int, v []int) {
		zeros := 0
		for w := range impl.FieldSize {
			got := impl.TypeCheck(kind, v, w)
			if got != checkOf(kind, v, w) {
				t.Errorf("TypeCheck(%d, %v, %d) is %d, not %d", kind, v, w, got, checkOf(kind, v, w))
			}
			if got == 0 {
				zeros++
			}
		}
		most := lengths()[kind]
		if ruleHolds(kind, v) {
			most = impl.FieldSize
		}
		if zeros > most {
			t.Errorf("TypeCheck(%d, %v) is 0 for %d random elements", kind, v, zeros)
		}
	})
}

// P34
func TestTypeCheckFindsOutPicksOfNoneOrOfSeveral(t *testing.T) {
	forTuples(4, []int{0, 1}, func(v []int) {
		if valueIn(2, v) >= 0 {
			return
		}
		for w := range impl.FieldSize {
			// Only the sum is wrong, and 0 hides it.
			if got := impl.TypeCheck(2, v, w); (got == 0) != (w == 0) {
				t.Errorf("TypeCheck(2, %v, %d) is %d", v, w, got)
			}
		}
	})
}

// Chapter 11, P34
func TestTypeCheckOfVectorsThatDoNotFit(t *testing.T) {
	for kind, many := range lengths() {
		for _, v := range unfit(many) {
			for w := range impl.FieldSize {
				checkIsOne(t, kind, v, w)
			}
			for _, w := range notElements() {
				checkIsOne(t, kind, v, w)
			}
		}
	}
}

// Chapter 11, P34
func TestTypeCheckOfEncodingsWithOneElementFewerOrMore(t *testing.T) {
	forEncodings(func(kind, _ int, v []int) {
		for w := range impl.FieldSize {
			checkIsOne(t, kind, v[:len(v)-1], w)
			checkIsOne(t, kind, v[1:], w)
			checkIsOne(t, kind, slices.Concat(v, []int{0}), w)
			checkIsOne(t, kind, slices.Concat([]int{0}, v), w)
		}
	})
}

// Chapter 11, P34
func TestTypeCheckOfInvalidRandomElements(t *testing.T) {
	for _, w := range notElements() {
		forEncodings(func(kind, _ int, v []int) { checkIsOne(t, kind, v, w) })
		for kind, many := range lengths() {
			forTuples(many, []int{0, 1, 2, last}, func(v []int) { checkIsOne(t, kind, v, w) })
		}
	}
}

// Chapter 11, P34
func TestTypeCheckOfUnknownTypes(t *testing.T) {
	for _, kind := range noKinds() {
		for _, w := range append(elements(), notElements()...) {
			forEncodings(func(_, _ int, v []int) { checkIsOne(t, kind, v, w) })
			for _, v := range [][]int{nil, {}, {2}, {-1}, {1, 1, 0, 0}, {0, impl.FieldSize, 0}, make([]int, 5), make([]int, 100)} {
				checkIsOne(t, kind, v, w)
			}
		}
	}
}

// P35
func TestEncodingsOfDifferentValuesDiffer(t *testing.T) {
	for kind, all := range encodings() {
		for val := range all {
			for other := range all {
				same := slices.Equal(encoding(t, kind, val), encoding(t, kind, other))
				if same != (val == other) {
					t.Errorf("TypeMake of %d and of %d of type %d: the same is %t", val, other, kind, same)
				}
			}
		}
	}
}

// P36
func TestTypeMakeOfOtherValues(t *testing.T) {
	for kind, most := range map[int]int{1: 1, 2: 3, 3: 7} {
		encoding(t, kind, 0)
		encoding(t, kind, most)
		makeFails(t, kind, -1)
		makeFails(t, kind, most+1)
		for _, val := range outside(most) {
			makeFails(t, kind, val)
		}
	}
}

// P36
func TestTypeMakeOfUnknownTypes(t *testing.T) {
	for _, kind := range noKinds() {
		for val := range 9 {
			makeFails(t, kind, val)
		}
		for _, val := range outside(7) {
			makeFails(t, kind, val)
		}
	}
}

// P37
func TestSumOfTwoEncodingsCounts(t *testing.T) {
	for kind, all := range encodings() {
		for val, v := range all {
			for other, w := range all {
				got := sum(t, encoding(t, kind, val), encoding(t, kind, other))
				if len(got) != len(v) {
					t.Fatalf("the encodings of %d and %d of type %d add up to %v", val, other, kind, got)
				}
				for place, n := range got {
					if n != v[place]+w[place] {
						t.Errorf("the encodings of %d and %d of type %d add up to %v", val, other, kind, got)
					}
				}
			}
		}
	}
}

// P37: of picks, this counts how many picked each.
func TestSumOfTwoPicks(t *testing.T) {
	for val := range 4 {
		for other := range 4 {
			var want [4]int
			want[val]++
			want[other]++
			if got := sum(t, encoding(t, 2, val), encoding(t, 2, other)); !slices.Equal(got, want[:]) {
				t.Errorf("picks of %d and %d add up to %v", val, other, got)
			}
		}
	}
}

// P38
func TestTypeCheckFindsOutAReplacedElement(t *testing.T) {
	forEncodings(func(kind, val int, _ []int) {
		for place := range impl.TypeLen(kind) {
			for n := 2; n <= last; n++ {
				v := encoding(t, kind, val)
				v[place] = n
				found := 0
				for w := range impl.FieldSize {
					if impl.TypeCheck(kind, v, w) != 0 {
						found++
					}
				}
				if found < impl.FieldSize-impl.TypeLen(kind) {
					t.Errorf("TypeCheck(%d, %v) is nonzero for %d random elements", kind, v, found)
				}
			}
		}
	})
}

// General rules: an argument keeps its elements and those beyond its length.
func TestTypeFunctionsChangeNoArgument(t *testing.T) {
	for kind, many := range lengths() {
		all := append(unfit(many), encodings()[kind]...)
		forTuples(many, []int{0, 1, 2, last}, func(v []int) { all = append(all, slices.Clone(v)) })
		for _, v := range all {
			arg := withSpare(v)
			before := slices.Clone(whole(arg))
			for _, given := range []int{kind, 0, 4} {
				impl.TypeOk(given, arg)
				impl.TypeVal(given, arg)
				impl.TypeCheck(given, arg, 3)
				impl.TypeCheck(given, arg, -1)
			}
			if !slices.Equal(whole(arg), before) {
				t.Fatalf("%v of type %d was changed", v, kind)
			}
		}
	}
}

// General rules
func TestEncodingsShareNoMemory(t *testing.T) {
	forEncodings(func(kind, val int, want []int) {
		first := encoding(t, kind, val)
		before := slices.Clone(whole(first))
		forEncodings(func(kind, val int, _ []int) { overwrite(encoding(t, kind, val)) })
		if !slices.Equal(whole(first), before) {
			t.Errorf("TypeMake(%d, %d) shares memory with another", kind, val)
		}
		if got := encoding(t, kind, val); !slices.Equal(got, want) {
			t.Errorf("TypeMake(%d, %d) was %v and is %v", kind, val, want, got)
		}
	})
}

// General rules: what is empty may still have memory beyond its length.
func TestFailedEncodingsShareNoMemory(t *testing.T) {
	for _, c := range [][2]int{{0, 0}, {4, 0}, {1, 2}, {2, 4}, {3, 8}, {3, -1}} {
		failed, _ := impl.TypeMake(c[0], c[1])
		made := encoding(t, 3, 7)
		beforeFailed, beforeMade := slices.Clone(whole(failed)), slices.Clone(whole(made))
		for kind := range 5 {
			for _, val := range append(outside(7), elements()...) {
				v, _ := impl.TypeMake(kind, val)
				overwrite(v)
			}
		}
		if !slices.Equal(whole(failed), beforeFailed) || !slices.Equal(whole(made), beforeMade) {
			t.Errorf("the failed TypeMake(%d, %d) shares memory with another", c[0], c[1])
		}
	}
}

// General rules: the memory of a vector is not kept to tell it by.
func TestTypeFunctionsReadAVectorAnew(t *testing.T) {
	v := make([]int, 3)
	for range 2 {
		for val, e := range encodings()[3] {
			copy(v, e)
			if got, ok := impl.TypeVal(3, v); !ok || got != val || impl.TypeCheck(3, v, 5) != 0 {
				t.Errorf("TypeVal(3, %v) is %d, %t", v, got, ok)
			}
			v[1] = 2
			isNoEncoding(t, 3, v)
			if got := impl.TypeCheck(3, v, 5); got != 10 {
				t.Errorf("TypeCheck(3, %v, 5) is %d", v, got)
			}
		}
	}
}

// General rules: calls at the same time keep no state.
func TestTypeFunctionsAtTheSameTime(t *testing.T) {
	var callers sync.WaitGroup
	for range 8 {
		callers.Go(func() {
			for w := range impl.FieldSize {
				forEncodings(func(kind, val int, want []int) {
					v, ok := impl.TypeMake(kind, val)
					got, found := impl.TypeVal(kind, v)
					if !ok || !found || got != val || !slices.Equal(v, want) || impl.TypeCheck(kind, v, w) != 0 {
						t.Errorf("TypeMake(%d, %d) is %v, %t", kind, val, v, ok)
					}
				})
			}
		})
	}
	callers.Wait()
}

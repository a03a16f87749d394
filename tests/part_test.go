package tests

import (
	"math"
	"slices"
	"sync"
	"testing"

	"loop.example/scrutineer/impl"
)

// someIds has both ends, the ones next to them, and others.
func someIds() []int {
	return []int{1, 2, 3, 31, 42, impl.IdMax - 1, impl.IdMax}
}

// noIds has 0 and numbers outside the range, some of which are Ids in a
// smaller integer type.
func noIds() []int {
	return append(outside(99), 0, 1<<8+1, 1<<16+1, 1<<32+99, math.MinInt+99)
}

// noSides has numbers of no side, some of which end as one does, in digits or
// in bits.
func noSides() []int {
	bad := append(outside(2), 0)
	for _, more := range []int{10, 100, 1 << 8, 1 << 16, 1 << 32, 1 << 62} {
		bad = append(bad, 1+more, 2+more, 1-more, 2-more)
	}
	return bad
}

// forReports has every value of each type, with some Ids and some seeds.
func forReports(check func(id, kind, val, seed int)) {
	forEncodings(func(kind, val int, _ []int) {
		for _, id := range someIds() {
			for _, seed := range someSeeds() {
				check(id, kind, val, seed)
			}
		}
	})
}

// drawnBy has what the formula of the document draws at the first indexes.
func drawnBy(seed, many int) []int {
	v := make([]int, many)
	for at := range v {
		v[at] = drawOf(seed, at)
	}
	return v
}

// wholeOf is the list of a report that PartsMake is to put in shares, as the
// document describes it.
func wholeOf(kind, val, seed int) []int {
	v := encodings()[kind][val]
	return listOf(v, proofOf(v, drawOf(seed, 19), drawOf(seed, 20)))
}

// bothOf has both shares of a list.
func bothOf(id, kind int, l, drawn []int) (impl.Part, impl.Part) {
	return impl.Part{Id: id, Kind: kind, Side: 1, List: difOf(l, drawn)},
		impl.Part{Id: id, Kind: kind, Side: 2, List: slices.Clone(drawn)}
}

// reportOf has both shares that PartsMake is to return.
func reportOf(id, kind, val, seed int) (impl.Part, impl.Part) {
	l := wholeOf(kind, val, seed)
	return bothOf(id, kind, l, drawnBy(seed, len(l)))
}

func samePart(p, q impl.Part) bool {
	return p.Id == q.Id && p.Kind == q.Kind && p.Side == q.Side && slices.Equal(p.List, q.List)
}

func isZeroPart(p impl.Part) bool {
	return samePart(p, impl.Part{})
}

// withList is a share with other numbers.
func withList(p impl.Part, l []int) impl.Part {
	p.List = l
	return p
}

// copyOf is a share with a list of its own.
func copyOf(p impl.Part) impl.Part {
	return withList(p, slices.Clone(p.List))
}

// rightPart follows the text of the document.
func rightPart(p impl.Part) bool {
	many, known := listLengths()[p.Kind]
	if !known || p.Id < 1 || p.Id > 99 || p.Side != 1 && p.Side != 2 || len(p.List) != many {
		return false
	}
	return slices.Min(p.List) >= 0 && slices.Max(p.List) <= 30
}

// rightPair says whether two shares match, as the document describes it.
func rightPair(a, b impl.Part) bool {
	return rightPart(a) && rightPart(b) && a.Id == b.Id && a.Kind == b.Kind && a.Side == 1 && b.Side == 2
}

// acceptsBoth is the decision for matching shares and a valid query.
func acceptsBoth(a, b impl.Part, at, w int) bool {
	one, two := askingOf(a.Kind, a.List, true), askingOf(b.Kind, b.List, false)
	return accepts(sumOf(one.answer(at, w), two.answer(at, w)))
}

func report(t *testing.T, id, kind, val, seed int) (impl.Part, impl.Part) {
	t.Helper()
	a, b, ok := impl.PartsMake(id, kind, val, seed)
	if !ok {
		t.Fatalf("PartsMake(%d, %d, %d, %d) fails", id, kind, val, seed)
	}
	return a, b
}

func reportFails(t *testing.T, id, kind, val, seed int) {
	t.Helper()
	if a, b, ok := impl.PartsMake(id, kind, val, seed); ok || !isZeroPart(a) || !isZeroPart(b) {
		t.Errorf("PartsMake(%d, %d, %d, %d) is %v, %v, %t", id, kind, val, seed, a, b, ok)
	}
}

func split(t *testing.T, id, kind int, l, drawn []int) (impl.Part, impl.Part) {
	t.Helper()
	a, b, ok := impl.PartsOf(id, kind, l, drawn)
	if !ok {
		t.Fatalf("PartsOf(%d, %d, %v, %v) fails", id, kind, l, drawn)
	}
	return a, b
}

func splitFails(t *testing.T, id, kind int, l, drawn []int) {
	t.Helper()
	if a, b, ok := impl.PartsOf(id, kind, l, drawn); ok || !isZeroPart(a) || !isZeroPart(b) {
		t.Errorf("PartsOf(%d, %d, %v, %v) is %v, %v, %t", id, kind, l, drawn, a, b, ok)
	}
}

func partIs(t *testing.T, p impl.Part, want bool) {
	t.Helper()
	if got := impl.PartOk(p); got != want {
		t.Errorf("PartOk(%v) is %t", p, got)
	}
}

func fitIs(t *testing.T, a, b impl.Part, want bool) {
	t.Helper()
	if got := impl.PartsFit(a, b); got != want {
		t.Errorf("PartsFit(%v, %v) is %t", a, b, got)
	}
}

func takeIs(t *testing.T, a, b impl.Part, at, w int, want bool) {
	t.Helper()
	if got := impl.PartsTake(a, b, at, w); got != want {
		t.Errorf("PartsTake(%v, %v, %d, %d) is %t", a, b, at, w, got)
	}
}

func valueIs(t *testing.T, a, b impl.Part, want int) {
	t.Helper()
	if got, ok := impl.PartsVal(a, b); !ok || got != want {
		t.Errorf("PartsVal(%v, %v) is %d, %t, not %d", a, b, got, ok, want)
	}
}

func valueFails(t *testing.T, a, b impl.Part) {
	t.Helper()
	if got, ok := impl.PartsVal(a, b); ok || got != 0 {
		t.Errorf("PartsVal(%v, %v) is %d, %t", a, b, got, ok)
	}
}

// doNotMatch checks every function of two shares, which may be valid alone.
func doNotMatch(t *testing.T, a, b impl.Part) {
	t.Helper()
	fitIs(t, a, b, false)
	takeIs(t, a, b, 9, 7, false)
	takeIs(t, a, b, last, 0, false)
	valueFails(t, a, b)
}

// times is for how many queries a report is accepted.
func times(a, b impl.Part) int {
	many := 0
	forQueries(a.Kind, func(at, w int) {
		if impl.PartsTake(a, b, at, w) {
			many++
		}
	})
	return many
}

// timesAreBounded compares with the exact number for the whole list, and that
// with the bound.
func timesAreBounded(t *testing.T, a, b impl.Part) {
	t.Helper()
	l := sumOf(a.List, b.List)
	got, want := times(a, b), chanceOf(a.Kind, l)
	if got != want {
		t.Errorf("%v and %v are accepted for %d queries, not %d", a, b, got, want)
	}
	if proves(a.Kind, l) {
		if got != allQueries()[a.Kind] {
			t.Errorf("%v and %v are accepted only for %d queries", a, b, got)
		}
	} else if got > impl.QueryBound(a.Kind) || got > bounds()[a.Kind] {
		t.Errorf("%v and %v are accepted for %d queries", a, b, got)
	}
}

// Chapter 21
func TestIdMaxAndSidesAreThoseOfTheDocument(t *testing.T) {
	if impl.IdMax != 99 || impl.SideOne != 1 || impl.SideTwo != 2 {
		t.Errorf("IdMax is %d, and the sides are %d and %d", impl.IdMax, impl.SideOne, impl.SideTwo)
	}
}

// Chapter 21: this compiles only if the fields are those of the document.
func TestPartHasTheFieldsOfTheDocument(t *testing.T) {
	fields := struct {
		Id   int
		Kind int
		Side int
		List []int
	}(impl.Part{Id: 1, Kind: 2, Side: 3, List: []int{4}})
	if fields.Id != 1 || fields.Kind != 2 || fields.Side != 3 || !slices.Equal(fields.List, []int{4}) {
		t.Errorf("the fields are %v", fields)
	}
}

// partExample is a report with both its lists, calculated without this
// program.
type partExample struct {
	id   int
	kind int
	val  int
	seed int
	one  []int
	two  []int
}

func partExamples() []partExample {
	return []partExample{
		{1, 1, 0, 0, []int{0, 15, 8, 24, 15, 26}, []int{0, 14, 19, 15, 2, 11}},
		{99, 1, 1, 999, []int{18, 5, 29, 30, 22, 19}, []int{14, 24, 25, 17, 0, 5}},
		{7, 1, 1, 5, []int{27, 30, 23, 14, 17, 9}, []int{5, 25, 5, 7, 0, 15}},
		{3, 2, 2, 77, []int{2, 1, 10, 26, 18, 7, 30, 7, 8, 9, 6, 30, 20, 9, 4}, []int{29, 30, 22, 5, 10, 6, 24, 2, 2, 24, 6, 10, 5, 22, 30}},
		{1, 2, 0, 999, []int{18, 7, 6, 14, 29, 18, 15, 18, 27, 29, 24, 14, 17, 20, 28}, []int{14, 24, 25, 17, 0, 5, 1, 19, 28, 28, 19, 1, 5, 0, 17}},
		{99, 2, 3, 0, []int{0, 17, 12, 17, 27, 16, 28, 22, 21, 23, 22, 2, 19, 28, 10}, []int{0, 14, 19, 15, 2, 11, 11, 2, 15, 19, 14, 0, 8, 7, 28}},
		{50, 2, 1, 500, []int{8, 15, 29, 22, 6, 26, 0, 8, 28, 19, 1, 25, 2, 8, 3}, []int{23, 17, 2, 9, 7, 27, 7, 9, 2, 17, 23, 20, 8, 18, 19}},
		{2, 3, 5, 17, []int{15, 23, 11, 18, 29, 24, 16, 30, 17, 11, 26, 12}, []int{17, 8, 21, 25, 20, 6, 14, 13, 3, 15, 18, 12}},
		{99, 3, 7, 998, []int{19, 4, 29, 30, 10, 4, 21, 25, 0, 24, 3, 14}, []int{13, 28, 3, 0, 19, 29, 30, 22, 5, 10, 6, 24}},
		{1, 3, 0, 61, []int{25, 6, 27, 1, 12, 12, 23, 4, 10, 6, 3, 13}, []int{6, 25, 4, 5, 28, 11, 16, 12, 30, 8, 8, 30}},
		{42, 3, 6, 31, []int{24, 11, 6, 14, 25, 28, 17, 7, 15, 30, 10, 20}, []int{7, 21, 26, 22, 9, 18, 18, 9, 22, 26, 21, 7}},
	}
}

// Chapter 21, P61
func TestPartsMakeOfExamples(t *testing.T) {
	for _, c := range partExamples() {
		a, b := report(t, c.id, c.kind, c.val, c.seed)
		one := impl.Part{Id: c.id, Kind: c.kind, Side: 1, List: c.one}
		two := impl.Part{Id: c.id, Kind: c.kind, Side: 2, List: c.two}
		if !samePart(a, one) || !samePart(b, two) {
			t.Errorf("PartsMake(%d, %d, %d, %d) is %v, %v", c.id, c.kind, c.val, c.seed, a, b)
		}
		for _, n := range []impl.Part{a, b, one, two} {
			partIs(t, n, true)
		}
		fitIs(t, one, two, true)
		fitIs(t, two, one, false)
		valueIs(t, one, two, c.val)
	}
}

// reportIsRight compares with the shares as the document describes them.
func reportIsRight(t *testing.T, id, kind, val, seed int) {
	t.Helper()
	a, b := report(t, id, kind, val, seed)
	one, two := reportOf(id, kind, val, seed)
	if !samePart(a, one) || !samePart(b, two) {
		t.Errorf("PartsMake(%d, %d, %d, %d) is %v, %v, not %v, %v", id, kind, val, seed, a, b, one, two)
	}
	partIs(t, a, true)
	partIs(t, b, true)
	fitIs(t, a, b, true)
	valueIs(t, a, b, val)
}

// P61
func TestPartsMakeOfEveryValue(t *testing.T) {
	forReports(func(id, kind, val, seed int) { reportIsRight(t, id, kind, val, seed) })
}

// P61, P74
func TestPartsMakeOfEveryIdAndSeed(t *testing.T) {
	for kind, all := range encodings() {
		for id := 1; id <= 99; id++ {
			reportIsRight(t, id, kind, id%len(all), 10*id)
		}
		for seed := range 1000 {
			reportIsRight(t, 1+seed%99, kind, seed%len(all), seed)
		}
	}
}

// P61, P66
func TestPartsMakeHasTheSidesInOrder(t *testing.T) {
	forReports(func(id, kind, val, seed int) {
		a, b := report(t, id, kind, val, seed)
		if a.Side != impl.SideOne || b.Side != impl.SideTwo || a.Id != id || b.Id != id || a.Kind != kind || b.Kind != kind {
			t.Errorf("PartsMake(%d, %d, %d, %d) is %v, %v", id, kind, val, seed, a, b)
		}
		fitIs(t, b, a, false)
		fitIs(t, a, a, false)
		fitIs(t, b, b, false)
	})
}

// P62
func TestSharesOfAReportAddUpToACorrectProof(t *testing.T) {
	forReports(func(id, kind, val, seed int) {
		a, b := report(t, id, kind, val, seed)
		l := back(t, a.List, b.List)
		v, p := parts(t, kind, l)
		if !impl.TypeOk(kind, v) || !slices.Equal(v, encodings()[kind][val]) {
			t.Errorf("PartsMake(%d, %d, %d, %d) shares %v", id, kind, val, seed, v)
		}
		isCorrect(t, kind, v, p, true)
		if p.U != impl.RandAt(seed, impl.ShareMax-1) || p.V != impl.RandAt(seed, impl.ShareMax) {
			t.Errorf("PartsMake(%d, %d, %d, %d) has the proof %v", id, kind, val, seed, p)
		}
		if !proves(kind, l) {
			t.Errorf("PartsMake(%d, %d, %d, %d) shares %v", id, kind, val, seed, l)
		}
	})
}

// P63
func TestPartsTakeOfEveryReport(t *testing.T) {
	forReports(func(id, kind, val, seed int) {
		a, b := report(t, id, kind, val, seed)
		forFewQueries(kind, func(at, w int) { takeIs(t, a, b, at, w, true) })
	})
}

// P63
func TestPartsTakeOfEveryQuery(t *testing.T) {
	forEncodings(func(kind, val int, _ []int) {
		for _, seed := range []int{0, 5, 77, impl.SeedMax} {
			a, b := report(t, 3, kind, val, seed)
			forQueries(kind, func(at, w int) { takeIs(t, a, b, at, w, true) })
			if got := times(a, b); got != allQueries()[kind] {
				t.Errorf("%v and %v are accepted only for %d queries", a, b, got)
			}
		}
	})
}

// P64
func TestSecondShareDoesNotDependOnTheValue(t *testing.T) {
	for kind, all := range encodings() {
		for seed := range impl.SeedMax + 1 {
			_, want := report(t, 42, kind, 0, seed)
			for val := range all {
				if _, got := report(t, 42, kind, val, seed); !samePart(got, want) {
					t.Errorf("the second share of %d of type %d with the seed %d is %v, and that of 0 is %v", val, kind, seed, got, want)
				}
			}
		}
	}
}

// P64: with every other value, whatever its proof draws, some random vector
// gives the same first share.
func TestFirstShareIsConsistentWithEveryOtherValue(t *testing.T) {
	forEncodings(func(kind, val int, _ []int) {
		for _, seed := range []int{0, 17, 500, impl.SeedMax} {
			a, _ := report(t, 3, kind, val, seed)
			for other, v := range encodings()[kind] {
				for _, pair := range drawnPairs() {
					l := listOf(v, proofOf(v, pair[0], pair[1]))
					one, two := split(t, 3, kind, l, drawnFor(t, l, a.List))
					if !samePart(one, a) {
						t.Errorf("the first share of %v is %v, not %v", l, one, a)
					}
					valueIs(t, a, two, other)
					takeIs(t, a, two, 9, 7, true)
				}
			}
		}
	})
}

// P64: as each seed gives another element at a place of the vector, so does it
// in each share, whatever the value is.
func TestFirstSharesHaveEachElementEquallyOften(t *testing.T) {
	forEncodings(func(kind, val int, v []int) {
		for place := range v {
			var one, two [31]int
			for seed := range impl.FieldSize {
				a, b := report(t, 3, kind, val, seed)
				one[a.List[place]]++
				two[b.List[place]]++
			}
			for n := range impl.FieldSize {
				if one[n] != 1 || two[n] != 1 {
					t.Errorf("%d seeds give %d at %d of the first share of %d of type %d, and %d of the second", one[n], n, place, val, kind, two[n])
				}
			}
		}
	})
}

// P65
func TestPartsOfPutsAnyListInShares(t *testing.T) {
	forLists(func(kind int, l []int) {
		for i, drawn := range splitsOf(l) {
			id := someIds()[i]
			a, b := split(t, id, kind, l, drawn)
			one, two := bothOf(id, kind, l, drawn)
			if !samePart(a, one) || !samePart(b, two) {
				t.Errorf("PartsOf(%d, %d, %v, %v) is %v, %v", id, kind, l, drawn, a, b)
			}
			if got := back(t, a.List, b.List); !slices.Equal(got, l) || !slices.Equal(b.List, drawn) {
				t.Errorf("PartsOf(%d, %d, %v, %v) is %v, %v", id, kind, l, drawn, a, b)
			}
			first, second := shares(t, l, drawn)
			if !slices.Equal(a.List, first) || !slices.Equal(b.List, second) {
				t.Errorf("PartsOf(%d, %d, %v, %v) is %v, %v, not with %v, %v", id, kind, l, drawn, a, b, first, second)
			}
			partIs(t, a, true)
			partIs(t, b, true)
			fitIs(t, a, b, true)
			fitIs(t, b, a, false)
		}
	})
}

// P65
func TestPartsOfListsOfOtherLengths(t *testing.T) {
	for kind, many := range listLengths() {
		for _, n := range []int{0, 1, last} {
			for size := range 40 {
				l := slices.Repeat([]int{n}, size)
				if size == many {
					split(t, 3, kind, l, l)
				} else {
					splitFails(t, 3, kind, l, l)
					splitFails(t, 3, kind, l, slices.Repeat([]int{n}, many))
					splitFails(t, 3, kind, slices.Repeat([]int{n}, many), l)
				}
			}
		}
		splitFails(t, 3, kind, nil, nil)
		splitFails(t, 3, kind, []int{}, nil)
	}
	forLists(func(kind int, l []int) {
		more, less := slices.Concat(l, []int{0}), l[:len(l)-1]
		for _, other := range [][]int{more, less, l[1:], slices.Concat(l, l), nil} {
			splitFails(t, 3, kind, other, other)
			splitFails(t, 3, kind, other, l)
			splitFails(t, 3, kind, l, other)
		}
		for other := range lengths() {
			if other != kind {
				splitFails(t, 3, other, l, l)
			}
		}
	})
}

// P65: what is beyond the length of a list is none of its elements.
func TestPartsOfCountsOnlyTheLength(t *testing.T) {
	for kind, many := range listLengths() {
		l, drawn := withSpare(listsOf(kind)[3]), withSpare(listsOf(kind)[2])
		a, b := split(t, 3, kind, l, drawn)
		if len(a.List) != many || len(b.List) != many {
			t.Errorf("PartsOf(3, %d, %v, %v) is %v, %v", kind, l, drawn, a, b)
		}
		splitFails(t, 3, kind, l[:many-1], drawn[:many-1])
		splitFails(t, 3, kind, l[:many+1], drawn[:many+1])
	}
}

// P65: some of these add up to elements, even to a list with a correct proof.
func TestPartsOfInvalidLists(t *testing.T) {
	for kind, many := range listLengths() {
		good := wholeOf(kind, 1, 5)
		for _, l := range invalidLists(kind) {
			splitFails(t, 3, kind, l, good)
			splitFails(t, 3, kind, good, l)
			splitFails(t, 3, kind, l, l)
			splitFails(t, 3, kind, l, make([]int, len(l)))
			splitFails(t, 3, kind, make([]int, len(l)), l)
			splitFails(t, 0, kind, l, l)
		}
		for place := range many {
			for _, n := range notElements() {
				for _, m := range notElements() {
					splitFails(t, 3, kind, replaced(good, place, n), replaced(good, place, m))
				}
			}
		}
	}
}

// Chapter 21
func TestPartsOfInvalidIdsAndTypes(t *testing.T) {
	for kind := range lengths() {
		l, drawn := listsOf(kind)[3], listsOf(kind)[2]
		for _, id := range noIds() {
			splitFails(t, id, kind, l, drawn)
			splitFails(t, id, kind, l, l)
			splitFails(t, id, 0, l, drawn)
			splitFails(t, id, kind, nil, nil)
		}
		for _, other := range noKinds() {
			splitFails(t, 3, other, l, drawn)
			splitFails(t, other, other, l, drawn)
		}
	}
	// An unknown type has a ProofLen of 0, but no list.
	for _, kind := range noKinds() {
		for size := range 22 {
			splitFails(t, 3, kind, make([]int, size), make([]int, size))
		}
		splitFails(t, 3, kind, nil, nil)
		splitFails(t, 1, kind, []int{}, nil)
	}
}

// Chapter 21
func TestPartsOfIds(t *testing.T) {
	for kind := range lengths() {
		l, drawn := listsOf(kind)[3], listsOf(kind)[2]
		for id := -1000; id <= 1000; id++ {
			if 1 <= id && id <= 99 {
				split(t, id, kind, l, drawn)
			} else {
				splitFails(t, id, kind, l, drawn)
			}
		}
	}
}

// partsOfAllSorts has shares of which some are valid, with each Id, type, side
// and length next to a limit.
func partsOfAllSorts() []impl.Part {
	var all []impl.Part
	for _, id := range []int{0, 1, 2, impl.IdMax, impl.IdMax + 1} {
		for _, kind := range []int{0, 1, 2, 3, 4} {
			for _, side := range []int{-1, 0, 1, 2, 3} {
				for _, size := range []int{listLengths()[kind] - 1, listLengths()[kind], listLengths()[kind] + 1} {
					all = append(all, impl.Part{Id: id, Kind: kind, Side: side, List: slices.Repeat([]int{7}, max(size, 0))})
				}
			}
		}
	}
	return all
}

// P66
func TestPartsFitOfAllSorts(t *testing.T) {
	all, matching := partsOfAllSorts(), 0
	for _, a := range all {
		partIs(t, a, rightPart(a))
		for _, b := range all {
			want := rightPair(a, b)
			if want {
				matching++
			}
			fitIs(t, a, b, want)
		}
	}
	// So many Ids and types.
	if matching != 9 {
		t.Errorf("%d pairs match", matching)
	}
}

// P66, P73: of many reports, each share matches only the other one of its own
// report.
func TestPartsFitOfManyReports(t *testing.T) {
	var one, two []impl.Part
	for kind := range lengths() {
		for id := 1; id <= 99; id++ {
			a, b := reportOf(id, kind, id%2, id)
			one, two = append(one, a), append(two, b)
		}
	}
	for i, a := range one {
		for j, b := range two {
			fitIs(t, a, b, i == j)
			fitIs(t, b, a, false)
			fitIs(t, a, one[j], false)
			fitIs(t, b, two[i], false)
		}
	}
}

// P66: the random vectors may differ, even if what is shared then makes no sense.
func TestPartsFitDoesNotDependOnTheLists(t *testing.T) {
	for kind := range lengths() {
		for _, l := range listsOf(kind) {
			for _, m := range [][]int{l, listsOf(kind)[0], listsOf(kind)[3], listsOf(kind)[20]} {
				a := impl.Part{Id: 42, Kind: kind, Side: 1, List: l}
				b := impl.Part{Id: 42, Kind: kind, Side: 2, List: m}
				fitIs(t, a, b, true)
				fitIs(t, b, a, false)
				fitIs(t, a, a, false)
				fitIs(t, b, b, false)
			}
		}
	}
}

// spoiled has a share with each fault alone, and with several together; with
// the same faults in the same order for every share of one type.
func spoiled(p impl.Part) []impl.Part {
	bad := []impl.Part{{}, {Id: p.Id, Kind: p.Kind, Side: p.Side}, {List: p.List}}
	for _, id := range noIds() {
		bad = append(bad, impl.Part{Id: id, Kind: p.Kind, Side: p.Side, List: p.List})
	}
	for _, kind := range noKinds() {
		bad = append(bad, impl.Part{Id: p.Id, Kind: kind, Side: p.Side, List: p.List})
		// The ProofLen of no type is 0, which is the length of this list.
		bad = append(bad, impl.Part{Id: p.Id, Kind: kind, Side: p.Side})
	}
	for _, side := range noSides() {
		bad = append(bad, impl.Part{Id: p.Id, Kind: p.Kind, Side: side, List: p.List})
	}
	for kind := range 4 {
		if kind != p.Kind {
			bad = append(bad, impl.Part{Id: p.Id, Kind: kind, Side: p.Side, List: p.List})
		}
	}
	for _, l := range invalidLists(p.Kind) {
		bad = append(bad, withList(p, l))
	}
	for place, n := range p.List {
		for _, m := range []int{n + 31, n - 31, -1, impl.FieldSize, math.MinInt, math.MaxInt} {
			bad = append(bad, withList(p, replaced(p.List, place, m)))
		}
	}
	bad = append(bad, withList(p, slices.Concat(p.List, []int{0})), withList(p, p.List[1:]), withList(p, p.List[:len(p.List)-1]))
	for _, n := range []int{math.MinInt, -1, 0, 100, math.MaxInt} {
		bad = append(bad,
			impl.Part{Id: n, Kind: n, Side: n, List: slices.Repeat([]int{n}, len(p.List))}, impl.Part{Id: n, Kind: n, Side: n, List: p.List},
			impl.Part{Id: n, Kind: p.Kind, Side: n, List: p.List}, impl.Part{Id: p.Id, Kind: n, Side: n, List: p.List},
			impl.Part{Id: n, Kind: n, Side: p.Side, List: p.List}, impl.Part{Id: n, Kind: n, Side: n})
	}
	return bad
}

// P66, P70, P71: with a fault in either share, and with the same one in both.
func TestInvalidSharesDoNotMatch(t *testing.T) {
	for kind := range lengths() {
		for _, id := range []int{1, impl.IdMax} {
			a, b := reportOf(id, kind, 1, 77)
			badA, badB := spoiled(a), spoiled(b)
			for i := range badA {
				partIs(t, badA[i], false)
				partIs(t, badB[i], false)
				for _, pair := range [][2]impl.Part{{badA[i], b}, {a, badB[i]}, {badA[i], badB[i]}, {badB[i], badA[i]}, {badA[i], badA[i]}} {
					doNotMatch(t, pair[0], pair[1])
				}
			}
		}
	}
}

// P67
func TestPartsTakeIsTheDecisionForBothAnswers(t *testing.T) {
	forLists(func(kind int, l []int) {
		for i, drawn := range splitsOf(l) {
			a, b := bothOf(someIds()[i], kind, l, drawn)
			forFewQueries(kind, func(at, w int) {
				one, two := ask(t, kind, a.List, true, at, w), ask(t, kind, b.List, false, at, w)
				want := impl.QueryDecide(one, two)
				if want != acceptsBoth(a, b, at, w) {
					t.Errorf("QueryDecide(%v, %v) is %t", one, two, want)
				}
				takeIs(t, a, b, at, w, want)
			})
		}
	})
}

// spoiltExample is a report to one element of whose first share 1 is added, with
// all queries for which it is still accepted, calculated without this program.
type spoiltExample struct {
	kind  int
	val   int
	seed  int
	place int
	at    []int
	w     []int
}

func spoiltExamples() []spoiltExample {
	return []spoiltExample{
		{1, 1, 5, 0, []int{6}, elements()}, {1, 1, 5, 1, nil, nil}, {1, 1, 5, 2, []int{28}, elements()}, {1, 1, 5, 5, nil, nil},
		{2, 2, 77, 1, []int{5}, []int{0}}, {2, 2, 77, 2, []int{10, 16}, []int{0}}, {2, 2, 77, 5, []int{19}, elements()}, {2, 2, 77, 14, nil, nil},
		{3, 5, 17, 1, nil, nil}, {3, 5, 17, 3, []int{21}, elements()}, {3, 5, 17, 11, nil, nil},
	}
}

// forSpoilt has both shares of each of them, at every query.
func forSpoilt(id int, check func(a, b impl.Part, at, w int, want bool)) {
	for _, c := range spoiltExamples() {
		a, b := reportOf(id, c.kind, c.val, c.seed)
		a.List[c.place] = (a.List[c.place] + 1) % 31
		forQueries(c.kind, func(at, w int) {
			check(a, b, at, w, slices.Contains(c.at, at) && slices.Contains(c.w, w))
		})
	}
}

// P67
func TestPartsTakeOfExamples(t *testing.T) {
	forSpoilt(1, func(a, b impl.Part, at, w int, want bool) { takeIs(t, a, b, at, w, want) })
}

// P67: at the points of the vector, and at no points.
func TestPartsTakeAtOtherPoints(t *testing.T) {
	forEncodings(func(kind, val int, _ []int) {
		a, b := reportOf(3, kind, val, 77)
		for _, at := range noPoints(kind) {
			for _, w := range []int{0, 1, 7, last, -1, impl.FieldSize, math.MinInt, math.MaxInt} {
				takeIs(t, a, b, at, w, false)
			}
		}
	})
}

// P67: as the document names them.
func TestPartsTakeAtTheEnds(t *testing.T) {
	forEncodings(func(kind, val int, _ []int) {
		a, b := reportOf(3, kind, val, 77)
		for at, want := range map[int]bool{
			-1: false, 0: false, lengths()[kind]: false, lengths()[kind] + 1: true, impl.FieldSize - 1: true, impl.FieldSize: false,
		} {
			for w, element := range map[int]bool{-1: false, 0: true, impl.FieldSize - 1: true, impl.FieldSize: false} {
				takeIs(t, a, b, at, w, want && element)
			}
		}
	})
}

// P67
func TestPartsTakeOfInvalidRandomElements(t *testing.T) {
	forEncodings(func(kind, val int, _ []int) {
		a, b := reportOf(3, kind, val, 77)
		for _, w := range slices.Concat(notElements(), outside(last)) {
			for _, at := range somePoints(kind) {
				takeIs(t, a, b, at, w, false)
			}
		}
	})
}

// P67: of shares that do not match, at every query.
func TestPartsTakeOfSharesThatDoNotMatch(t *testing.T) {
	for kind := range lengths() {
		a, b := reportOf(3, kind, 1, 77)
		other, otherB := reportOf(4, kind, 1, 77)
		for _, pair := range [][2]impl.Part{{b, a}, {a, a}, {b, b}, {a, otherB}, {other, b}, {a, other}, {otherB, b}, {{}, {}}, {a, {}}, {{}, b}} {
			forQueries(kind, func(at, w int) { takeIs(t, pair[0], pair[1], at, w, false) })
			doNotMatch(t, pair[0], pair[1])
		}
	}
}

// P67: the smallest and the largest numbers, in several places at once.
func TestPartsTakeOfInvalidArgumentsTogether(t *testing.T) {
	for kind, many := range listLengths() {
		a, b := reportOf(3, kind, 1, 77)
		for _, n := range notElements() {
			bad := impl.Part{Id: n, Kind: n, Side: n, List: slices.Repeat([]int{n}, many)}
			for _, m := range notElements() {
				takeIs(t, a, b, n, m, false)
				takeIs(t, bad, b, n, m, false)
				takeIs(t, a, bad, m, n, false)
				takeIs(t, bad, bad, n, m, false)
				takeIs(t, bad, bad, 9, 7, false)
			}
		}
	}
}

// somewhatWrong has lists of each type that are accepted for no query, for few,
// for as many as the bound says, or for all.
func somewhatWrong(kind int) [][]int {
	lists := listsOf(kind)
	some := slices.Concat(lists[:25], lists[len(lists)-5:], reaching(kind)[:5])
	for _, v := range someFitting(kind)[:20] {
		some = append(some, listOf(v, proofOf(v, 5, 17)))
	}
	return some
}

// P68
func TestPartsTakeIsTrueAsOftenAsQueryChanceCounts(t *testing.T) {
	d := draw(68)
	for kind := range lengths() {
		for i, l := range somewhatWrong(kind) {
			a, b := bothOf(someIds()[i%7], kind, l, d.poly(len(l)))
			got, want := times(a, b), impl.QueryChance(kind, l)
			if got != want || want != chanceOf(kind, l) {
				t.Errorf("%v and %v are accepted for %d queries, not %d", a, b, got, want)
			}
		}
	}
}

// seedsWithZero has seeds with which the proof's U, or its V, is 0, so that a
// proof may be correct with another one, too.
func seedsWithZero() []int {
	return []int{29, 20, 74}
}

// P69
func TestPartsTakeWithAChangedElement(t *testing.T) {
	forEncodings(func(kind, val int, _ []int) {
		for _, seed := range []int{77, 29, 20} {
			a, b := report(t, 3, kind, val, seed)
			for place := range a.List {
				timesAreBounded(t, withList(a, replaced(a.List, place, (a.List[place]+1)%31)), b)
				timesAreBounded(t, a, withList(b, replaced(b.List, place, (b.List[place]+29)%31)))
			}
		}
	})
}

// P69
func TestPartsTakeWithEachOtherElement(t *testing.T) {
	for kind, val := range map[int]int{1: 1, 2: 2, 3: 5} {
		a, b := report(t, 99, kind, val, 5)
		for place := range a.List {
			for n := range impl.FieldSize {
				// In one share or in the other, so that this does not take long.
				if n%2 == 0 {
					timesAreBounded(t, withList(a, replaced(a.List, place, n)), b)
				} else {
					timesAreBounded(t, a, withList(b, replaced(b.List, place, n)))
				}
			}
		}
	}
}

// P69: what is changed may be a correct proof again.
func TestPartsTakeWithAnotherCorrectProof(t *testing.T) {
	found := 0
	forEncodings(func(kind, val int, v []int) {
		for _, seed := range seedsWithZero() {
			a, b := report(t, 3, kind, val, seed)
			for _, place := range []int{len(v), len(v) + 1} {
				changed := withList(b, replaced(b.List, place, (b.List[place]+1)%31))
				if !proves(kind, sumOf(a.List, changed.List)) {
					continue
				}
				found++
				valueIs(t, a, changed, val)
				if got := times(a, changed); got != allQueries()[kind] {
					t.Errorf("%v and %v are accepted only for %d queries", a, changed, got)
				}
			}
		}
	})
	if found < 4 {
		t.Errorf("only %d changes leave a correct proof", found)
	}
}

// P69: the changes of both shares add up to 0, so that the report stays.
func TestMovingAnElementBetweenSharesKeepsTheReport(t *testing.T) {
	forEncodings(func(kind, val int, _ []int) {
		a, b := report(t, 3, kind, val, 17)
		for place := range a.List {
			one := withList(a, replaced(a.List, place, (a.List[place]+4)%31))
			two := withList(b, replaced(b.List, place, (b.List[place]+27)%31))
			valueIs(t, one, two, val)
			forFewQueries(kind, func(at, w int) { takeIs(t, one, two, at, w, true) })
		}
	})
}

// P70
func TestPartsValOfAnyLists(t *testing.T) {
	forLists(func(kind int, l []int) {
		want := valueIn(kind, l[:lengths()[kind]])
		for i, drawn := range splitsOf(l) {
			a, b := bothOf(someIds()[i], kind, l, drawn)
			if want >= 0 {
				valueIs(t, a, b, want)
			} else {
				valueFails(t, a, b)
			}
			valueFails(t, b, a)
			valueFails(t, a, a)
			valueFails(t, b, b)
		}
	})
}

// P70: of every vector of few different elements, whatever the proof is.
func TestPartsValIsTypeValOfTheVector(t *testing.T) {
	d := draw(70)
	for kind, many := range listLengths() {
		for _, v := range someFitting(kind) {
			for _, rest := range [][]int{make([]int, many-len(v)), d.poly(many - len(v))} {
				a, b := bothOf(42, kind, slices.Concat(v, rest), d.poly(many))
				want, encodes := impl.TypeVal(kind, v)
				got, ok := impl.PartsVal(a, b)
				if got != want || ok != encodes || ok != (valueIn(kind, v) >= 0) {
					t.Errorf("PartsVal(%v, %v) is %d, %t, but TypeVal(%d, %v) is %d, %t", a, b, got, ok, kind, v, want, encodes)
				}
			}
		}
	}
}

// P70: of two reports, of two types, and of one share twice.
func TestPartsValOfSharesThatDoNotMatch(t *testing.T) {
	forEncodings(func(kind, val int, _ []int) {
		a, b := report(t, 3, kind, val, 5)
		for other := range lengths() {
			for _, id := range []int{2, 3, 4} {
				one, two := report(t, id, other, 1, 5)
				if id != 3 || other != kind {
					doNotMatch(t, a, two)
					doNotMatch(t, one, b)
				}
				doNotMatch(t, a, one)
				doNotMatch(t, two, b)
				doNotMatch(t, two, a)
			}
		}
	})
}

// P71
func TestValidSharesBecomeInvalid(t *testing.T) {
	forReports(func(id, kind, val, seed int) {
		a, b := report(t, id, kind, val, seed)
		for _, p := range []impl.Part{a, b} {
			partIs(t, p, true)
			for _, n := range []int{-1, 0, 3, 4} {
				partIs(t, impl.Part{Id: p.Id, Kind: p.Kind, Side: n, List: p.List}, false)
			}
			for _, n := range []int{-1, 0, impl.IdMax + 1, p.Id + 100, -p.Id} {
				partIs(t, impl.Part{Id: n, Kind: p.Kind, Side: p.Side, List: p.List}, false)
			}
			for _, n := range []int{-1, 0, last, impl.FieldSize} {
				partIs(t, withList(p, slices.Concat(p.List, []int{n})), false)
				partIs(t, withList(p, slices.Concat([]int{n}, p.List)), false)
			}
			partIs(t, withList(p, p.List[:len(p.List)-1]), false)
			partIs(t, withList(p, nil), false)
		}
	})
}

// Chapter 21: a share is valid alone with the other side, another Id or any
// elements.
func TestPartOkOfEveryIdSideAndElement(t *testing.T) {
	for kind, many := range listLengths() {
		for id := -200; id <= 300; id++ {
			for side := -3; side <= 5; side++ {
				p := impl.Part{Id: id, Kind: kind, Side: side, List: make([]int, many)}
				partIs(t, p, 1 <= id && id <= 99 && (side == 1 || side == 2))
			}
		}
		for place := range many {
			for n := -40; n <= 80; n++ {
				p := impl.Part{Id: 1, Kind: kind, Side: 2, List: replaced(make([]int, many), place, n)}
				partIs(t, p, 0 <= n && n <= 30)
			}
		}
		for size := range 40 {
			p := impl.Part{Id: 99, Kind: kind, Side: 1, List: make([]int, size)}
			partIs(t, p, size == many)
		}
		for _, l := range listsOf(kind) {
			partIs(t, impl.Part{Id: 99, Kind: kind, Side: 1, List: withSpare(l)}, true)
		}
	}
}

// P72
func TestPartsMakeWithAnotherSeed(t *testing.T) {
	forEncodings(func(kind, val int, _ []int) {
		first, second := report(t, 3, kind, val, 0)
		for seed := range impl.SeedMax + 1 {
			a, b := report(t, 3, kind, val, seed)
			valueIs(t, a, b, val)
			again, againB := report(t, 3, kind, val, seed)
			if !samePart(a, again) || !samePart(b, againB) {
				t.Errorf("PartsMake(3, %d, %d, %d) is %v, %v, and then %v, %v", kind, val, seed, a, b, again, againB)
			}
			// What these two draw is the same at each index.
			same := seed == 0 || seed == 961
			if samePart(a, first) != same || samePart(b, second) != same {
				t.Errorf("PartsMake(3, %d, %d, %d) is %v, %v, and with 0 it is %v, %v", kind, val, seed, a, b, first, second)
			}
		}
	})
}

// P73
func TestSharesOfReportsWithOtherIdsDoNotMatch(t *testing.T) {
	forEncodings(func(kind, val int, _ []int) {
		for _, id := range someIds() {
			a, b := report(t, id, kind, val, 17)
			for _, other := range someIds() {
				one, two := report(t, other, kind, val, 17)
				if other == id {
					continue
				}
				doNotMatch(t, a, two)
				doNotMatch(t, one, b)
			}
		}
	})
}

// P73: of the same value, and of another one.
func TestSharesWithOtherRandomVectorsAreSeldomAccepted(t *testing.T) {
	forEncodings(func(kind, val int, _ []int) {
		for _, seeds := range [][2]int{{5, 17}, {17, 5}, {0, impl.SeedMax}, {29, 20}} {
			for _, other := range []int{val, 0, 1} {
				a, _ := report(t, 3, kind, val, seeds[0])
				_, b := report(t, 3, kind, other, seeds[1])
				fitIs(t, a, b, true)
				timesAreBounded(t, a, b)
			}
		}
	})
}

// P73: these seeds draw the same at each index, so both random vectors are one,
// and what is shared is an encoding with a correct proof.
func TestSharesWithTheSameRandomVectorAreAccepted(t *testing.T) {
	forEncodings(func(kind, val int, _ []int) {
		for _, other := range []int{0, 1} {
			a, _ := report(t, 3, kind, val, 38)
			_, b := report(t, 3, kind, other, 999)
			valueIs(t, a, b, val)
			if got := times(a, b); got != allQueries()[kind] {
				t.Errorf("%v and %v are accepted only for %d queries", a, b, got)
			}
		}
	})
}

// P74
func TestPartsMakeAtTheEnds(t *testing.T) {
	for kind, most := range map[int]int{1: 1, 2: 3, 3: 7} {
		for id, isId := range map[int]bool{-1: false, 0: false, 1: true, impl.IdMax: true, impl.IdMax + 1: false} {
			for val, isVal := range map[int]bool{-1: false, 0: true, most: true, most + 1: false} {
				for seed, isSeed := range map[int]bool{-1: false, 0: true, impl.SeedMax: true, impl.SeedMax + 1: false} {
					if isId && isVal && isSeed {
						reportIsRight(t, id, kind, val, seed)
					} else {
						reportFails(t, id, kind, val, seed)
					}
				}
			}
		}
	}
}

// P74
func TestPartsMakeOfInvalidNumbers(t *testing.T) {
	for kind, most := range map[int]int{1: 1, 2: 3, 3: 7} {
		for _, id := range noIds() {
			reportFails(t, id, kind, 1, 5)
			reportFails(t, id, kind, most+1, impl.SeedMax+1)
		}
		for _, val := range outside(most) {
			reportFails(t, 3, kind, val, 5)
			reportFails(t, 0, kind, val, -1)
		}
		for _, seed := range outside(impl.SeedMax) {
			reportFails(t, 3, kind, 1, seed)
			reportFails(t, 100, kind, -1, seed)
		}
	}
}

// P74
func TestPartsMakeOfUnknownTypes(t *testing.T) {
	for _, kind := range noKinds() {
		for val := -1; val <= 8; val++ {
			for _, seed := range []int{-1, 0, 5, impl.SeedMax, impl.SeedMax + 1} {
				for _, id := range []int{0, 1, 3, impl.IdMax, impl.IdMax + 1} {
					reportFails(t, id, kind, val, seed)
				}
			}
		}
	}
}

// P74: the smallest and the largest numbers, in several places at once.
func TestPartsMakeOfInvalidArgumentsTogether(t *testing.T) {
	numbers := []int{math.MinInt, math.MinInt + 1, -1, 1000, math.MaxInt - 1, math.MaxInt}
	good := []int{3, 1, 1, 5}
	forTuples(4, []int{0, 1, 2, 3, 4, 5, 6}, func(which []int) {
		args, bad := slices.Clone(good), false
		for i, n := range which {
			if n < len(numbers) {
				args[i], bad = numbers[n], true
			}
		}
		if bad {
			reportFails(t, args[0], args[1], args[2], args[3])
		}
	})
}

// parting is a function of chapter 21 with two shares, whose lists may also be
// a list and a random vector, and all slices of its result.
type parting struct {
	name string
	call func(a, b impl.Part) [][]int
}

func partings() []parting {
	return []parting{
		{"PartOk", func(a, b impl.Part) [][]int {
			impl.PartOk(a)
			impl.PartOk(b)
			return nil
		}},
		{"PartsOf", func(a, b impl.Part) [][]int {
			p, q, _ := impl.PartsOf(a.Id, a.Kind, a.List, b.List)
			return [][]int{p.List, q.List}
		}},
		{"PartsMake", func(a, b impl.Part) [][]int {
			p, q, _ := impl.PartsMake(a.Id, a.Kind, 1, 5)
			return [][]int{p.List, q.List}
		}},
		{"PartsFit", func(a, b impl.Part) [][]int {
			impl.PartsFit(a, b)
			return nil
		}},
		{"PartsTake", func(a, b impl.Part) [][]int {
			impl.PartsTake(a, b, 9, 7)
			impl.PartsTake(a, b, 0, 31)
			return nil
		}},
		{"PartsVal", func(a, b impl.Part) [][]int {
			impl.PartsVal(a, b)
			return nil
		}},
	}
}

// forPartings has each function with shares that match and ones that do not.
func forPartings(check func(f parting, a, b impl.Part)) {
	for _, f := range partings() {
		forEncodings(func(kind, val int, _ []int) {
			a, b := reportOf(3, kind, val, 77)
			check(f, a, b)
			check(f, b, a)
			check(f, a, a)
		})
		for kind := range lengths() {
			a, b := reportOf(3, kind, 1, 77)
			for _, p := range spoiled(a) {
				check(f, p, b)
				check(f, a, p)
			}
			for _, l := range listsOf(kind)[:20] {
				check(f, withList(a, l), b)
				check(f, a, withList(b, l))
			}
		}
	}
}

// General rules: an argument keeps its elements and those beyond its length,
// and no result has memory of an argument.
func TestPartFunctionsChangeNoArgument(t *testing.T) {
	forPartings(func(f parting, a, b impl.Part) {
		one, two := withList(a, withSpare(a.List)), withList(b, withSpare(b.List))
		beforeOne, beforeTwo := slices.Clone(whole(one.List)), slices.Clone(whole(two.List))
		results := f.call(one, two)
		if !slices.Equal(whole(one.List), beforeOne) || !slices.Equal(whole(two.List), beforeTwo) {
			t.Fatalf("%s of %v and %v changes an argument", f.name, a, b)
		}
		for _, r := range results {
			overwrite(r)
		}
		if !slices.Equal(whole(one.List), beforeOne) || !slices.Equal(whole(two.List), beforeTwo) {
			t.Fatalf("a result of %s of %v and %v shares memory with it", f.name, a, b)
		}
	})
}

// General rules: also beyond their lengths, and if the call fails.
func TestSharesOfReportsShareNoMemory(t *testing.T) {
	forPartings(func(f parting, a, b impl.Part) {
		if shareMemory(slices.Concat(f.call(a, b), f.call(a, b))) {
			t.Fatalf("results of %s of %v and %v share memory", f.name, a, b)
		}
	})
}

// General rules: both lists can be extended.
func TestListsOfSharesCanBeExtended(t *testing.T) {
	forReports(func(id, kind, val, seed int) {
		a, b := report(t, id, kind, val, seed)
		one, two := copyOf(a), copyOf(b)
		_, _ = append(a.List, 9, 9, 9), append(b.List, 8, 8, 8)
		if !samePart(a, one) || !samePart(b, two) {
			t.Fatalf("%v and %v become %v and %v", one, two, a, b)
		}
		c, d := split(t, id, kind, withSpare(a.List), withSpare(b.List))
		_, _ = append(c.List, 9, 9, 9), append(d.List, 8, 8, 8)
		if !slices.Equal(c.List, difOf(a.List, b.List)) || !slices.Equal(d.List, b.List) {
			t.Fatalf("the shares of %v with %v become %v and %v", a.List, b.List, c, d)
		}
	})
}

// General rules: both lists may be parts of one slice, or the same one.
func TestPartFunctionsOfPartsOfOneSlice(t *testing.T) {
	forEncodings(func(kind, val int, _ []int) {
		one, two := reportOf(3, kind, val, 17)
		both := slices.Concat(one.List, two.List)
		many := len(one.List)
		a, b := withList(one, both[:many]), withList(two, both[many:])
		valueIs(t, a, b, val)
		takeIs(t, a, b, 9, 7, true)
		c, d := split(t, 3, kind, both[:many], both[many:])
		if !slices.Equal(c.List, difOf(one.List, two.List)) || !slices.Equal(d.List, two.List) {
			t.Errorf("PartsOf(3, %d, %v, %v) is %v, %v", kind, both[:many], both[many:], c, d)
		}
		if !slices.Equal(both, slices.Concat(one.List, two.List)) {
			t.Fatalf("%v and %v become %v", one.List, two.List, both)
		}
		c, d = split(t, 3, kind, both[:many], both[:many])
		if !slices.Equal(c.List, make([]int, many)) || !slices.Equal(d.List, one.List) {
			t.Errorf("PartsOf(3, %d, %v, %v) is %v, %v", kind, both[:many], both[:many], c, d)
		}
	})
}

// General rules: no share is kept to tell it by.
func TestPartFunctionsReadTheirArgumentsAnew(t *testing.T) {
	a := impl.Part{Id: 3, Kind: 3, Side: 1, List: make([]int, 12)}
	b := impl.Part{Id: 3, Kind: 3, Side: 2, List: make([]int, 12)}
	for range 2 {
		for val := range 8 {
			one, two := reportOf(3, 3, val, 77)
			copy(a.List, one.List)
			copy(b.List, two.List)
			valueIs(t, a, b, val)
			takeIs(t, a, b, 9, 7, true)
			// Neither 0 nor 1, whatever it was.
			a.List[0] = (a.List[0] + 5) % 31
			valueFails(t, a, b)
			a.List[0] = 31
			partIs(t, a, false)
			doNotMatch(t, a, b)
			splitFails(t, 3, 3, a.List, b.List)
		}
	}
}

// General rules: a goroutine that is still at work after the call would use
// the lists that are overwritten here.
func TestPartFunctionsAreDoneWhenTheyReturn(t *testing.T) {
	for range 20 {
		forEncodings(func(kind, val int, _ []int) {
			l := wholeOf(kind, val, 17)
			drawn := drawnBy(17, len(l))
			one, two := bothOf(3, kind, l, drawn)
			a, b := split(t, 3, kind, l, drawn)
			overwrite(l)
			overwrite(drawn)
			if !samePart(a, one) || !samePart(b, two) {
				t.Fatalf("the shares are %v and %v, not %v and %v", a, b, one, two)
			}
			valueIs(t, a, b, val)
			overwrite(a.List)
			valueFails(t, a, b)
		})
	}
}

// General rules: calls at the same time keep no state.
func TestPartFunctionsAtTheSameTime(t *testing.T) {
	var callers sync.WaitGroup
	for range 8 {
		callers.Go(func() {
			forReports(func(id, kind, val, seed int) {
				one, two := reportOf(id, kind, val, seed)
				a, b, ok := impl.PartsMake(id, kind, val, seed)
				got, isVal := impl.PartsVal(a, b)
				if !ok || !samePart(a, one) || !samePart(b, two) || !isVal || got != val || !impl.PartsTake(a, b, 9, 7) {
					t.Errorf("PartsMake(%d, %d, %d, %d) is %v, %v, %t", id, kind, val, seed, a, b, ok)
				}
			})
		})
	}
	callers.Wait()
}

package tests

import (
	"math"
	"slices"
	"sync"
	"testing"

	"loop.example/scrutineer/impl"
)

// forCols has both sides with each type.
func forCols(check func(side, kind int)) {
	for side := 1; side <= 2; side++ {
		for kind := range lengths() {
			check(side, kind)
		}
	}
}

// manyIds has as many different Ids, neither ascending nor descending.
func manyIds(many int) []int {
	return []int{42, 1, 99, 7, 98, 2, 50, 3, 31, 64, 5}[:many]
}

// colWith has a collector that was not made by the program.
func colWith(side, kind int, ids []int) impl.Col {
	d := draw(75)
	return impl.Col{Side: side, Kind: kind, Sum: d.poly(lengths()[kind]), Ids: slices.Clone(ids)}
}

// colsOf has collectors with no Ids, some and ColMax of them, and with the least
// and the greatest elements and others.
func colsOf(side, kind int) []impl.Col {
	var all []impl.Col
	d := draw(76)
	many := lengths()[kind]
	for _, ids := range [][]int{nil, {}, {1}, {99}, {99, 1}, manyIds(5), manyIds(8), manyIds(9)} {
		for _, sum := range [][]int{make([]int, many), slices.Repeat([]int{last}, many), elements()[1 : 1+many], d.poly(many)} {
			all = append(all, impl.Col{Side: side, Kind: kind, Sum: sum, Ids: slices.Clone(ids)})
		}
	}
	return all
}

func withSum(c impl.Col, sum []int) impl.Col {
	c.Sum = sum
	return c
}

func withIds(c impl.Col, ids []int) impl.Col {
	c.Ids = ids
	return c
}

// copyOfCol is a collector with slices of its own.
func copyOfCol(c impl.Col) impl.Col {
	return withSum(withIds(c, slices.Clone(c.Ids)), slices.Clone(c.Sum))
}

func sameCol(c, d impl.Col) bool {
	return c.Side == d.Side && c.Kind == d.Kind && slices.Equal(c.Sum, d.Sum) && slices.Equal(c.Ids, d.Ids)
}

// shareOn has the share of a report on one side.
func shareOn(side, id, kind, val, seed int) impl.Part {
	a, b := reportOf(id, kind, val, seed)
	if side == 1 {
		return a
	}
	return b
}

// plainShare has a valid share without a proof.
func plainShare(side, id, kind int) impl.Part {
	return impl.Part{Id: id, Kind: kind, Side: side, List: elements()[9 : 9+listLengths()[kind]]}
}

// rightCol follows the text of the document.
func rightCol(c impl.Col) bool {
	many, known := lengths()[c.Kind]
	if !known || c.Side != 1 && c.Side != 2 || len(c.Sum) != many || len(c.Ids) > 9 {
		return false
	}
	seen := make(map[int]bool)
	for _, id := range c.Ids {
		seen[id] = true
		if id < 1 || id > 99 {
			return false
		}
	}
	return slices.Min(c.Sum) >= 0 && slices.Max(c.Sum) <= 30 && len(seen) == len(c.Ids)
}

// takenBy is what ColTake is to return, as the document describes it.
func takenBy(c impl.Col, p impl.Part) (impl.Col, bool) {
	if !rightCol(c) || !rightPart(p) {
		return impl.Col{}, false
	}
	if p.Side != c.Side || p.Kind != c.Kind || slices.Contains(c.Ids, p.Id) || len(c.Ids) == 9 {
		return c, false
	}
	sum := sumOf(c.Sum, p.List[:lengths()[p.Kind]])
	return withSum(withIds(c, slices.Concat(c.Ids, []int{p.Id})), sum), true
}

func collector(t *testing.T, side, kind int) impl.Col {
	t.Helper()
	c, ok := impl.ColNew(side, kind)
	if !ok {
		t.Fatalf("ColNew(%d, %d) fails", side, kind)
	}
	return c
}

func colFails(t *testing.T, side, kind int) {
	t.Helper()
	if c, ok := impl.ColNew(side, kind); ok || !sameCol(c, impl.Col{}) {
		t.Errorf("ColNew(%d, %d) is %v, %t", side, kind, c, ok)
	}
}

func colIs(t *testing.T, c impl.Col, want bool) {
	t.Helper()
	if got := impl.ColOk(c); got != want {
		t.Errorf("ColOk(%v) is %t", c, got)
	}
}

func hasIs(t *testing.T, c impl.Col, id int, want bool) {
	t.Helper()
	if got := impl.ColHas(c, id); got != want {
		t.Errorf("ColHas(%v, %d) is %t", c, id, got)
	}
}

// taken is the collector after a share that it can take.
func taken(t *testing.T, c impl.Col, p impl.Part) impl.Col {
	t.Helper()
	before := copyOfCol(c)
	want, may := takenBy(c, p)
	got, ok := impl.ColTake(c, p)
	if !may || !ok || !sameCol(got, want) {
		t.Fatalf("ColTake(%v, %v) is %v, %t, not %v", before, p, got, ok, want)
	}
	colIs(t, got, true)
	hasIs(t, got, p.Id, true)
	return got
}

// changesNothing checks that a valid collector does not take a valid share.
func changesNothing(t *testing.T, c impl.Col, p impl.Part) {
	t.Helper()
	before := copyOfCol(c)
	if got, ok := impl.ColTake(c, p); ok || !sameCol(got, before) {
		t.Errorf("ColTake(%v, %v) is %v, %t", before, p, got, ok)
	}
}

// givesNothing checks a call with an invalid collector or share.
func givesNothing(t *testing.T, c impl.Col, p impl.Part) {
	t.Helper()
	if got, ok := impl.ColTake(c, p); ok || !sameCol(got, impl.Col{}) {
		t.Errorf("ColTake(%v, %v) is %v, %t", c, p, got, ok)
	}
}

// takingIsRight compares with the text of the document.
func takingIsRight(t *testing.T, c impl.Col, p impl.Part) {
	t.Helper()
	want, may := takenBy(copyOfCol(c), p)
	if got, ok := impl.ColTake(c, p); ok != may || !sameCol(got, want) {
		t.Errorf("ColTake(%v, %v) is %v, %t, not %v, %t", c, p, got, ok, want, may)
	}
}

// Chapter 22
func TestColMaxIsThatOfTheDocument(t *testing.T) {
	if impl.ColMax != 9 {
		t.Errorf("ColMax is %d", impl.ColMax)
	}
}

// Chapter 22: this compiles only if the fields are those of the document.
func TestColHasTheFieldsOfTheDocument(t *testing.T) {
	fields := struct {
		Side int
		Kind int
		Sum  []int
		Ids  []int
	}(impl.Col{Side: 1, Kind: 2, Sum: []int{3}, Ids: []int{4}})
	if fields.Side != 1 || fields.Kind != 2 || !slices.Equal(fields.Sum, []int{3}) || !slices.Equal(fields.Ids, []int{4}) {
		t.Errorf("the fields are %v", fields)
	}
}

// colExample is reports (Id, value and seed) with the sums of both collectors,
// calculated without this program.
type colExample struct {
	kind    int
	reports [][3]int
	one     []int
	two     []int
}

func colExamples() []colExample {
	return []colExample{
		{1, nil, []int{0}, []int{0}},
		{1, [][3]int{{1, 0, 0}}, []int{0}, []int{0}},
		{1, [][3]int{{99, 1, 999}, {1, 0, 17}, {50, 1, 500}}, []int{10}, []int{23}},
		{1, [][3]int{{9, 1, 1}, {8, 0, 2}, {7, 1, 5}, {6, 0, 31}, {5, 1, 61}, {4, 0, 62}, {3, 1, 960}, {2, 1, 961}, {1, 1, 998}}, []int{28}, []int{9}},
		{2, [][3]int{{3, 2, 77}}, []int{2, 1, 10, 26}, []int{29, 30, 22, 5}},
		{2, [][3]int{{42, 0, 5}, {7, 3, 31}, {99, 3, 999}}, []int{6, 23, 6, 18}, []int{26, 8, 25, 15}},
		{2, [][3]int{{11, 1, 100}, {22, 2, 200}, {33, 3, 300}, {44, 0, 400}, {55, 1, 500}, {66, 2, 600}, {77, 3, 700}, {88, 0, 800}, {99, 1, 900}}, []int{2, 26, 5, 4}, []int{0, 8, 28, 29}},
		{3, [][3]int{{8, 5, 31}}, []int{25, 10, 6}, []int{7, 21, 26}},
		{3, [][3]int{{2, 7, 998}, {1, 6, 17}}, []int{2, 28, 9}, []int{30, 5, 24}},
		{3, [][3]int{{5, 0, 0}, {4, 7, 961}, {3, 1, 62}, {2, 2, 30}, {1, 4, 500}}, []int{28, 4, 25}, []int{5, 29, 8}},
	}
}

// P76: with the reports as the program makes them.
func TestColTakeOfExamples(t *testing.T) {
	for _, e := range colExamples() {
		one, two := collector(t, 1, e.kind), collector(t, 2, e.kind)
		var ids []int
		for _, r := range e.reports {
			a, b := report(t, r[0], e.kind, r[1], r[2])
			one, two = taken(t, one, a), taken(t, two, b)
			ids = append(ids, r[0])
		}
		if !sameCol(one, impl.Col{Side: 1, Kind: e.kind, Sum: e.one, Ids: ids}) || !sameCol(two, impl.Col{Side: 2, Kind: e.kind, Sum: e.two, Ids: ids}) {
			t.Errorf("after %v the collectors are %v and %v", e.reports, one, two)
		}
	}
}

// P75
func TestColNewOfEachSideAndType(t *testing.T) {
	forCols(func(side, kind int) {
		c := collector(t, side, kind)
		if !sameCol(c, impl.Col{Side: side, Kind: kind, Sum: make([]int, lengths()[kind])}) {
			t.Errorf("ColNew(%d, %d) is %v", side, kind, c)
		}
		colIs(t, c, true)
		for id := -200; id <= 300; id++ {
			hasIs(t, c, id, false)
		}
	})
}

// P75
func TestColNewOfSidesAndTypesAroundTheEnds(t *testing.T) {
	for side := -300; side <= 300; side++ {
		for kind := -300; kind <= 300; kind++ {
			if 1 <= side && side <= 2 && 1 <= kind && kind <= 3 {
				collector(t, side, kind)
			} else {
				colFails(t, side, kind)
			}
		}
	}
}

// P75: also both at once.
func TestColNewOfInvalidSidesAndTypes(t *testing.T) {
	for _, side := range noSides() {
		for kind := range lengths() {
			colFails(t, side, kind)
		}
		for _, kind := range noKinds() {
			colFails(t, side, kind)
		}
	}
	for _, kind := range noKinds() {
		colFails(t, impl.SideOne, kind)
		colFails(t, impl.SideTwo, kind)
		colFails(t, kind, kind)
	}
}

// colsOfAllSorts has collectors of which some are valid, with each side, type,
// number of elements and number of Ids next to a limit.
func colsOfAllSorts() []impl.Col {
	var all []impl.Col
	for _, side := range []int{-1, 0, 1, 2, 3} {
		for _, kind := range []int{impl.KindBit - 1, impl.KindBit, impl.KindPick, impl.KindNum, impl.KindNum + 1} {
			for size := range 6 {
				for _, ids := range [][]int{nil, {0}, {1}, {99}, {100}, {1, 99}, {7, 7}, manyIds(8), manyIds(9), manyIds(10)} {
					all = append(all, impl.Col{Side: side, Kind: kind, Sum: slices.Repeat([]int{7}, size), Ids: ids})
				}
			}
		}
	}
	return all
}

// Chapter 22, P80
func TestColOkOfAllSorts(t *testing.T) {
	valid := 0
	for _, c := range colsOfAllSorts() {
		want := rightCol(c)
		if want {
			valid++
		}
		colIs(t, c, want)
	}
	// So many sides, types, and slices of Ids.
	if valid != 2*3*6 {
		t.Errorf("%d collectors are valid", valid)
	}
}

// Chapter 22: every collector is valid that is as the document says, also if
// the program does not make it.
func TestColOkOfValidCollectors(t *testing.T) {
	forCols(func(side, kind int) {
		for _, c := range colsOf(side, kind) {
			colIs(t, c, true)
			colIs(t, impl.Col{Side: side, Kind: kind, Sum: withSpare(c.Sum), Ids: withSpare(c.Ids)}, true)
		}
	})
}

// Chapter 22: what is beyond the length of a slice is none of its elements.
func TestColOkCountsOnlyTheLength(t *testing.T) {
	forCols(func(side, kind int) {
		many := lengths()[kind]
		c := colWith(side, kind, manyIds(9))
		colIs(t, withIds(c, withSpare(c.Ids)[:10]), false)
		colIs(t, withIds(c, manyIds(11)[:9]), true)
		colIs(t, withSum(c, withSpare(c.Sum)[:many+1]), false)
		colIs(t, withSum(c, make([]int, 20)[:many]), true)
		colIs(t, withSum(c, make([]int, many)[:many-1]), false)
	})
}

// Chapter 22
func TestColOkOfEachElement(t *testing.T) {
	forCols(func(side, kind int) {
		for _, c := range colsOf(side, kind) {
			for place := range c.Sum {
				for n := -40; n <= 80; n++ {
					colIs(t, withSum(c, replaced(c.Sum, place, n)), 0 <= n && n <= 30)
				}
				for _, n := range notElements() {
					colIs(t, withSum(c, replaced(c.Sum, place, n)), false)
				}
			}
		}
	})
}

// Chapter 22, P80
func TestColOkOfSumsOfOtherLengths(t *testing.T) {
	forCols(func(side, kind int) {
		for size := range 40 {
			for _, n := range []int{0, 1, last} {
				for _, ids := range [][]int{nil, {1}, manyIds(9)} {
					c := impl.Col{Side: side, Kind: kind, Sum: slices.Repeat([]int{n}, size), Ids: ids}
					colIs(t, c, size == lengths()[kind])
				}
			}
		}
		for _, sum := range unfit(lengths()[kind]) {
			colIs(t, impl.Col{Side: side, Kind: kind, Sum: sum}, false)
			colIs(t, impl.Col{Side: side, Kind: kind, Sum: sum, Ids: manyIds(3)}, false)
		}
	})
}

// Chapter 22, P79
func TestEveryIdAlone(t *testing.T) {
	forCols(func(side, kind int) {
		for id := -200; id <= 300; id++ {
			c := colWith(side, kind, []int{id})
			colIs(t, c, 1 <= id && id <= 99)
			hasIs(t, c, id, 1 <= id && id <= 99)
			hasIs(t, c, id+1, false)
			hasIs(t, c, id-1, false)
		}
		for _, id := range noIds() {
			colIs(t, colWith(side, kind, []int{id}), false)
			hasIs(t, colWith(side, kind, []int{id}), id, false)
		}
	})
}

// Chapter 22: an invalid Id at each place among valid ones.
func TestColOkOfInvalidIds(t *testing.T) {
	forCols(func(side, kind int) {
		for many := 1; many <= 9; many++ {
			for place := range many {
				for _, n := range noIds() {
					c := colWith(side, kind, replaced(manyIds(many), place, n))
					colIs(t, c, false)
					hasIs(t, c, n, false)
					hasIs(t, c, 42, false)
				}
			}
		}
	})
}

// P80: at each two places, also next to each other and far apart.
func TestColOkOfRepeatedIds(t *testing.T) {
	forCols(func(side, kind int) {
		for many := 2; many <= 9; many++ {
			for i := range many {
				for j := range many {
					ids := replaced(manyIds(many), i, manyIds(many)[j])
					c := colWith(side, kind, ids)
					colIs(t, c, i == j)
					hasIs(t, c, ids[j], i == j)
				}
			}
		}
		for _, id := range []int{1, 42, 99} {
			for many := range 30 {
				colIs(t, colWith(side, kind, slices.Repeat([]int{id}, many)), many <= 1)
			}
		}
	})
}

// Chapter 22
func TestColOkOfManyIds(t *testing.T) {
	forCols(func(side, kind int) {
		var up, down []int
		for id := 1; id <= 99; id++ {
			up, down = append(up, id), append(down, 100-id)
		}
		for many := range 100 {
			for _, ids := range [][]int{up[:many], down[:many], up[99-many:], down[99-many:]} {
				colIs(t, colWith(side, kind, ids), many <= 9)
			}
		}
		colIs(t, colWith(side, kind, make([]int, 1000)), false)
		colIs(t, colWith(side, kind, slices.Repeat(manyIds(9), 100)), false)
	})
}

// spoiledCols has a collector with each fault alone, and with several together.
func spoiledCols(c impl.Col) []impl.Col {
	bad := []impl.Col{{}, {Side: c.Side, Kind: c.Kind}, {Side: c.Side, Kind: c.Kind, Ids: c.Ids}, {Sum: c.Sum, Ids: c.Ids}}
	for _, side := range noSides() {
		bad = append(bad, impl.Col{Side: side, Kind: c.Kind, Sum: c.Sum, Ids: c.Ids})
	}
	for _, kind := range noKinds() {
		bad = append(bad, impl.Col{Side: c.Side, Kind: kind, Sum: c.Sum, Ids: c.Ids})
		// The TypeLen of no type is 0, which is the length of this sum.
		bad = append(bad, impl.Col{Side: c.Side, Kind: kind, Ids: c.Ids})
	}
	for kind := range lengths() {
		if kind != c.Kind {
			bad = append(bad, impl.Col{Side: c.Side, Kind: kind, Sum: c.Sum, Ids: c.Ids})
		}
	}
	bad = append(bad, withSum(c, slices.Concat(c.Sum, []int{0})), withSum(c, c.Sum[1:]), withSum(c, nil))
	for place, e := range c.Sum {
		for _, n := range append(notElements(), e+31, e-31) {
			bad = append(bad, withSum(c, replaced(c.Sum, place, n)))
		}
	}
	for _, id := range append(noIds(), c.Ids...) {
		bad = append(bad, withIds(c, slices.Concat(c.Ids, []int{id})), withIds(c, slices.Concat([]int{id}, c.Ids)))
	}
	bad = append(bad, withIds(c, manyIds(10)), withIds(c, slices.Repeat([]int{64}, 2)))
	for _, n := range []int{math.MinInt, -1, 0, 100, math.MaxInt} {
		all := slices.Repeat([]int{n}, len(c.Sum))
		bad = append(bad,
			impl.Col{Side: n, Kind: n, Sum: all, Ids: []int{n}}, impl.Col{Side: n, Kind: n, Sum: c.Sum, Ids: c.Ids}, impl.Col{Side: n, Kind: n},
			impl.Col{Side: n, Kind: c.Kind, Sum: all, Ids: c.Ids}, impl.Col{Side: n, Kind: c.Kind, Sum: c.Sum, Ids: []int{n}},
			impl.Col{Side: c.Side, Kind: n, Sum: all, Ids: c.Ids}, impl.Col{Side: c.Side, Kind: n, Sum: c.Sum, Ids: []int{n}},
			impl.Col{Side: c.Side, Kind: c.Kind, Sum: all, Ids: []int{n, n}})
	}
	return bad
}

// P79, P80
func TestSpoiledCollectorsAreInvalid(t *testing.T) {
	forCols(func(side, kind int) {
		for _, ids := range [][]int{{7}, {1, 99}, manyIds(9)} {
			for _, c := range spoiledCols(colWith(side, kind, ids)) {
				colIs(t, c, false)
				for _, id := range slices.Concat(ids, c.Ids, []int{0, 1, 99, 100}) {
					hasIs(t, c, id, false)
				}
			}
		}
	})
}

// P80
func TestValidCollectorsBecomeInvalid(t *testing.T) {
	forCols(func(side, kind int) {
		c := collector(t, side, kind)
		for i, id := range manyIds(9) {
			c = taken(t, c, shareOn(side, id, kind, i%2, 100*i))
			for _, again := range c.Ids {
				colIs(t, withIds(c, slices.Concat(c.Ids, []int{again})), false)
				colIs(t, withIds(c, slices.Concat([]int{again}, c.Ids)), false)
			}
			for _, n := range []int{0, 3, -1, -side, side + 2, math.MinInt, math.MaxInt} {
				colIs(t, impl.Col{Side: n, Kind: kind, Sum: c.Sum, Ids: c.Ids}, false)
			}
			for _, n := range []int{0, 1, last, -1, impl.FieldSize} {
				colIs(t, withSum(c, slices.Concat(c.Sum, []int{n})), false)
				colIs(t, withSum(c, slices.Concat([]int{n}, c.Sum)), false)
			}
			// The other side is valid, too.
			colIs(t, impl.Col{Side: 3 - side, Kind: kind, Sum: c.Sum, Ids: c.Ids}, true)
		}
	})
}

// P79
func TestColHasExactlyTheRecordedIds(t *testing.T) {
	forCols(func(side, kind int) {
		for _, c := range colsOf(side, kind) {
			for id := -300; id <= 400; id++ {
				hasIs(t, c, id, slices.Contains(c.Ids, id))
			}
			for _, id := range noIds() {
				hasIs(t, c, id, false)
			}
			for _, id := range c.Ids {
				for _, more := range []int{100, 1 << 8, 1 << 16, 1 << 32, 1 << 62, math.MinInt} {
					hasIs(t, c, id+more, false)
				}
			}
		}
	})
}

// P79: what is beyond the length is not recorded.
func TestColHasCountsOnlyTheLength(t *testing.T) {
	forCols(func(side, kind int) {
		for many := range 10 {
			c := colWith(side, kind, nil)
			c.Ids = manyIds(11)[:many]
			for i, id := range manyIds(11) {
				hasIs(t, c, id, i < many)
			}
		}
	})
}

// P79: reports that are taken, and others.
func TestColHasAfterColTake(t *testing.T) {
	forCols(func(side, kind int) {
		c := collector(t, side, kind)
		for i, id := range manyIds(9) {
			hasIs(t, c, id, false)
			c = taken(t, c, shareOn(side, id, kind, 1, 11*i))
			for j, other := range manyIds(11) {
				hasIs(t, c, other, j <= i)
			}
		}
	})
}

// P76: of shares of both sides and of all types, with each of many collectors.
func TestColTakeOfEverySideTypeAndId(t *testing.T) {
	forCols(func(side, kind int) {
		for _, c := range colsOf(side, kind) {
			succeeds := 0
			forCols(func(otherSide, otherKind int) {
				for id := 1; id <= 99; id++ {
					p := plainShare(otherSide, id, otherKind)
					takingIsRight(t, c, p)
					if _, ok := impl.ColTake(c, p); ok {
						succeeds++
					}
				}
			})
			want := 99 - len(c.Ids)
			if len(c.Ids) == 9 {
				want = 0
			}
			if succeeds != want {
				t.Errorf("%v takes %d shares", c, succeeds)
			}
		}
	})
}

// P76: of every report, as the program makes it.
func TestColTakeOfEveryReport(t *testing.T) {
	forReports(func(id, kind, val, seed int) {
		a, b := report(t, id, kind, val, seed)
		many := lengths()[kind]
		for side, p := range map[int]impl.Part{1: a, 2: b} {
			c := taken(t, collector(t, side, kind), p)
			if !sameCol(c, impl.Col{Side: side, Kind: kind, Sum: p.List[:many], Ids: []int{id}}) {
				t.Errorf("after %v, the collector is %v", p, c)
			}
			old := colWith(side, kind, []int{50, 30})
			c = taken(t, old, p)
			if !slices.Equal(c.Sum, sum(t, old.Sum, p.List[:many])) || !slices.Equal(c.Ids, []int{50, 30, id}) {
				t.Errorf("after %v, the collector %v is %v", p, old, c)
			}
		}
	})
}

// P76: whether it is accepted does not matter to the collector, nor does what
// stands behind the vector.
func TestColTakeOfAnyLists(t *testing.T) {
	forLists(func(kind int, l []int) {
		for side := 1; side <= 2; side++ {
			p := impl.Part{Id: 42, Kind: kind, Side: side, List: l}
			for _, c := range []impl.Col{colWith(side, kind, nil), colWith(side, kind, []int{99, 1}), collector(t, side, kind)} {
				got := taken(t, c, p)
				v := slices.Concat(l[:lengths()[kind]], slices.Repeat([]int{5}, len(l)-lengths()[kind]))
				if !sameCol(got, taken(t, c, withList(p, v))) {
					t.Errorf("ColTake(%v, %v) is %v, and another with %v", c, p, got, v)
				}
			}
		}
	})
}

// P76: at each place, also where the sum passes FieldSize.
func TestColTakeAddsEveryTwoElements(t *testing.T) {
	forCols(func(side, kind int) {
		for place := range lengths()[kind] {
			forPairs(func(a, b int) {
				c := colWith(side, kind, []int{3})
				c.Sum = replaced(c.Sum, place, a)
				p := plainShare(side, 5, kind)
				p.List = replaced(p.List, place, b)
				if got := taken(t, c, p).Sum[place]; got != impl.FieldSum(a, b) || got != (a+b)%31 {
					t.Errorf("ColTake(%v, %v) has the element %d at %d", c, p, got, place)
				}
			})
		}
	})
}

// P76: all elements pass FieldSize at once, and again and again.
func TestColTakeOfGreatestElements(t *testing.T) {
	forCols(func(side, kind int) {
		c := collector(t, side, kind)
		for i, id := range manyIds(9) {
			p := plainShare(side, id, kind)
			c = taken(t, c, withList(p, slices.Repeat([]int{last}, len(p.List))))
			if want := slices.Repeat([]int{impl.FieldSize - i - 1}, lengths()[kind]); !slices.Equal(c.Sum, want) {
				t.Errorf("after %d shares the sum is %v", i+1, c.Sum)
			}
		}
	})
}

// forColRuns has nine reports of several values and seeds, in several orders.
func forColRuns(check func(kind int, reports [][3]int)) {
	for kind, all := range encodings() {
		for first := range len(someSeeds()) {
			var reports [][3]int
			for i, id := range manyIds(9) {
				seed := someSeeds()[(first+i)%len(someSeeds())]
				reports = append(reports, [3]int{id, (first + 3*i) % len(all), seed})
			}
			check(kind, reports)
			slices.Reverse(reports)
			check(kind, reports)
			check(kind, slices.Concat(reports[4:], reports[:4]))
			slices.SortFunc(reports, func(r, q [3]int) int { return r[0] - q[0] })
			check(kind, reports)
		}
	}
}

// P76: what both collectors have recorded adds up to the encodings, though
// neither of them has these.
func TestSumsOfBothCollectorsAddUpToTheEncodings(t *testing.T) {
	forColRuns(func(kind int, reports [][3]int) {
		one, two := collector(t, 1, kind), collector(t, 2, kind)
		want := make([]int, lengths()[kind])
		for _, r := range reports {
			a, b := report(t, r[0], kind, r[1], r[2])
			one, two = taken(t, one, a), taken(t, two, b)
			want = sumOf(want, encodings()[kind][r[1]])
			if got := back(t, one.Sum, two.Sum); !slices.Equal(got, want) {
				t.Errorf("among %v, the sums after %v add up to %v, not %v", reports, one.Ids, got, want)
			}
			if !slices.Equal(one.Ids, two.Ids) {
				t.Errorf("the collectors %v and %v have recorded different reports", one, two)
			}
		}
	})
}

// P77
func TestTakingAShareAgainChangesNothing(t *testing.T) {
	forColRuns(func(kind int, reports [][3]int) {
		for side := 1; side <= 2; side++ {
			c := collector(t, side, kind)
			var before []impl.Part
			for _, r := range reports {
				p := shareOn(side, r[0], kind, r[1], r[2])
				hasIs(t, c, p.Id, false)
				c = taken(t, c, p)
				before = append(before, p)
				for _, again := range before {
					changesNothing(t, c, again)
					hasIs(t, c, again.Id, true)
				}
			}
		}
	})
}

// P77: the Id tells whether it is the same report, not the list.
func TestTakingAnotherShareWithTheSameIdChangesNothing(t *testing.T) {
	forReports(func(id, kind, val, seed int) {
		for side := 1; side <= 2; side++ {
			c := taken(t, collector(t, side, kind), shareOn(side, id, kind, val, seed))
			changesNothing(t, c, shareOn(side, id, kind, 1-val%2, seed))
			changesNothing(t, c, shareOn(side, id, kind, val, 999-seed))
			changesNothing(t, c, plainShare(side, id, kind))
			changesNothing(t, c, withList(plainShare(side, id, kind), make([]int, listLengths()[kind])))
		}
	})
}

// P77: the same list with another Id is another report.
func TestTakingTheSameListWithAnotherId(t *testing.T) {
	forCols(func(side, kind int) {
		c := collector(t, side, kind)
		for _, id := range manyIds(9) {
			p := shareOn(side, 3, kind, 1, 17)
			p.Id = id
			c = taken(t, c, p)
		}
		if !slices.Equal(c.Ids, manyIds(9)) {
			t.Errorf("the collector is %v", c)
		}
	})
}

// P77: a call that fails leaves the collector as it is for the next one.
func TestColTakeAfterOneThatFails(t *testing.T) {
	forCols(func(side, kind int) {
		p, q := shareOn(side, 3, kind, 1, 17), shareOn(side, 4, kind, 0, 5)
		c := taken(t, collector(t, side, kind), p)
		for range 3 {
			again, ok := impl.ColTake(c, p)
			if ok || !sameCol(again, c) {
				t.Fatalf("ColTake(%v, %v) is %v, %t", c, p, again, ok)
			}
			if !sameCol(taken(t, again, q), taken(t, c, q)) {
				t.Errorf("%v after %v is not as before", again, p)
			}
			c = again
		}
	})
}

// P78
func TestTwoSharesInEitherOrder(t *testing.T) {
	forCols(func(side, kind int) {
		d := draw(78)
		for _, c := range colsOf(side, kind) {
			if len(c.Ids) > 7 {
				continue
			}
			for range 20 {
				p, q := plainShare(side, 11, kind), plainShare(side, 90, kind)
				p.List, q.List = d.poly(len(p.List)), d.poly(len(q.List))
				first, second := taken(t, taken(t, c, p), q), taken(t, taken(t, c, q), p)
				if !slices.Equal(first.Sum, second.Sum) || !slices.Equal(first.Sum, sumOf(sumOf(c.Sum, p.List[:len(c.Sum)]), q.List)) {
					t.Errorf("%v takes %v and %v, and is %v or %v", c, p, q, first, second)
				}
				if !slices.Equal(first.Ids, slices.Concat(c.Ids, []int{11, 90})) || !slices.Equal(second.Ids, slices.Concat(c.Ids, []int{90, 11})) {
					t.Errorf("%v takes %v and %v, and is %v or %v", c, p, q, first, second)
				}
			}
		}
	})
}

// P78: there is space for one of them only.
func TestTwoSharesForOnePlace(t *testing.T) {
	forCols(func(side, kind int) {
		c := colWith(side, kind, manyIds(8))
		p, q := shareOn(side, 11, kind, 1, 17), shareOn(side, 90, kind, 0, 5)
		first, second := taken(t, c, p), taken(t, c, q)
		changesNothing(t, first, q)
		changesNothing(t, second, p)
		hasIs(t, first, 90, false)
		hasIs(t, second, 11, false)
	})
}

// P78: of every order of four reports.
func TestSharesInEveryOrder(t *testing.T) {
	forCols(func(side, kind int) {
		var shares []impl.Part
		for i, id := range manyIds(4) {
			shares = append(shares, shareOn(side, id, kind, i%2, 77*i))
		}
		var want []int
		forTuples(4, []int{0, 1, 2, 3}, func(order []int) {
			if len(slices.Compact(slices.Sorted(slices.Values(order)))) < 4 {
				return
			}
			c := collector(t, side, kind)
			var ids []int
			for _, i := range order {
				c = taken(t, c, shares[i])
				ids = append(ids, shares[i].Id)
			}
			if want == nil {
				want = c.Sum
			}
			if !slices.Equal(c.Sum, want) || !slices.Equal(c.Ids, ids) {
				t.Errorf("in the order %v, the collector is %v, not with %v", order, c, want)
			}
		})
	})
}

// P81: afterwards, shares that are recorded fail as well as new ones.
func TestColTakeUntilTheCollectorIsFull(t *testing.T) {
	forColRuns(func(kind int, reports [][3]int) {
		for side := 1; side <= 2; side++ {
			c := collector(t, side, kind)
			for i, r := range reports {
				c = taken(t, c, shareOn(side, r[0], kind, r[1], r[2]))
				if len(c.Ids) != i+1 {
					t.Fatalf("after %d reports, the collector is %v", i+1, c)
				}
			}
			if len(c.Ids) != impl.ColMax {
				t.Fatalf("the full collector is %v", c)
			}
			for id := 1; id <= 99; id++ {
				changesNothing(t, c, plainShare(side, id, kind))
				hasIs(t, c, id, slices.Contains(manyIds(9), id))
			}
			changesNothing(t, c, shareOn(side, reports[8][0], kind, reports[8][1], reports[8][2]))
			changesNothing(t, c, shareOn(side, 64, kind, 1, 17))
		}
	})
}

// P82: of a new collector, of one that has something, and of a full one.
func TestSharesOfAnotherSideOrTypeChangeNothing(t *testing.T) {
	forCols(func(side, kind int) {
		for _, c := range append(colsOf(side, kind), collector(t, side, kind)) {
			forCols(func(otherSide, otherKind int) {
				if otherSide == side && otherKind == kind {
					return
				}
				for _, id := range []int{1, 42, 64, 99} {
					changesNothing(t, c, plainShare(otherSide, id, otherKind))
					changesNothing(t, c, shareOn(otherSide, id, otherKind, 1, 17))
					hasIs(t, c, id, slices.Contains(c.Ids, id))
				}
			})
		}
	})
}

// P82: of one report, each collector takes the share of its side.
func TestSharesOfAReportWithBothCollectors(t *testing.T) {
	forReports(func(id, kind, val, seed int) {
		a, b := report(t, id, kind, val, seed)
		one, two := collector(t, 1, kind), collector(t, 2, kind)
		changesNothing(t, one, b)
		changesNothing(t, two, a)
		one, two = taken(t, one, a), taken(t, two, b)
		changesNothing(t, one, b)
		changesNothing(t, two, a)
	})
}

// Chapter 22: with a fault of the share alone, also where the collector would
// not take it without that.
func TestColTakeOfInvalidShares(t *testing.T) {
	forCols(func(side, kind int) {
		for _, c := range []impl.Col{
			collector(t, side, kind), colWith(side, kind, []int{7}), colWith(side, kind, []int{42, 7}), colWith(side, kind, manyIds(8)), colWith(side, kind, manyIds(9)),
		} {
			for _, p := range []impl.Part{plainShare(side, 3, kind), plainShare(side, 42, kind), plainShare(3-side, 3, kind), plainShare(side, 3, 1+kind%3)} {
				for _, bad := range spoiled(p) {
					givesNothing(t, c, bad)
				}
			}
		}
	})
}

// Chapter 22: with a fault of the collector alone, also where it would not take
// the share without that.
func TestColTakeOfInvalidCollectors(t *testing.T) {
	forCols(func(side, kind int) {
		for _, c := range []impl.Col{colWith(side, kind, []int{7}), colWith(side, kind, []int{42, 7}), colWith(side, kind, manyIds(9))} {
			for _, bad := range spoiledCols(c) {
				for _, id := range []int{3, 42, 99} {
					givesNothing(t, bad, shareOn(side, id, kind, 1, 17))
					givesNothing(t, bad, plainShare(side, id, kind))
				}
				givesNothing(t, bad, plainShare(3-side, 3, kind))
				givesNothing(t, bad, plainShare(side, 3, 1+kind%3))
			}
		}
	})
}

// Chapter 22: some of these have the same fault.
func TestColTakeOfInvalidArgumentsTogether(t *testing.T) {
	forCols(func(side, kind int) {
		cols, shares := spoiledCols(colWith(side, kind, []int{42, 7})), spoiled(plainShare(side, 3, kind))
		for i, c := range cols {
			for j := i % 7; j < len(shares); j += 7 {
				givesNothing(t, c, shares[j])
			}
		}
		for _, n := range notElements() {
			c := impl.Col{Side: n, Kind: n, Sum: slices.Repeat([]int{n}, lengths()[kind]), Ids: []int{n}}
			p := impl.Part{Id: n, Kind: n, Side: n, List: slices.Repeat([]int{n}, listLengths()[kind])}
			colIs(t, c, false)
			hasIs(t, c, n, false)
			givesNothing(t, c, p)
			givesNothing(t, impl.Col{Side: n, Kind: n}, impl.Part{Id: n, Kind: n, Side: n})
		}
	})
	givesNothing(t, impl.Col{}, impl.Part{})
	colIs(t, impl.Col{}, false)
	hasIs(t, impl.Col{}, 0, false)
}

// Chapter 22: of every collector and share next to a limit.
func TestColTakeOfAllSorts(t *testing.T) {
	shares := partsOfAllSorts()
	for _, c := range colsOfAllSorts() {
		for _, p := range shares {
			takingIsRight(t, c, p)
		}
	}
}

// collecting is a function of chapter 22 with a collector and a share, and all
// slices of its result.
type collecting struct {
	name string
	call func(c impl.Col, p impl.Part) [][]int
}

func collectings() []collecting {
	return []collecting{
		{"ColNew", func(c impl.Col, p impl.Part) [][]int {
			made, _ := impl.ColNew(c.Side, p.Kind)
			return [][]int{made.Sum, made.Ids}
		}},
		{"ColOk", func(c impl.Col, p impl.Part) [][]int {
			impl.ColOk(c)
			return nil
		}},
		{"ColHas", func(c impl.Col, p impl.Part) [][]int {
			impl.ColHas(c, p.Id)
			impl.ColHas(c, 42)
			return nil
		}},
		{"ColTake", func(c impl.Col, p impl.Part) [][]int {
			got, _ := impl.ColTake(c, p)
			return [][]int{got.Sum, got.Ids}
		}},
	}
}

// forCollectings has each function with collectors and shares of which some are
// invalid; of the others the collector takes only some.
func forCollectings(check func(f collecting, c impl.Col, p impl.Part)) {
	for _, f := range collectings() {
		forCols(func(side, kind int) {
			p := shareOn(side, 3, kind, 1, 17)
			for _, c := range colsOf(side, kind) {
				for _, id := range []int{3, 42, 99} {
					check(f, c, shareOn(side, id, kind, 1, 17))
				}
				check(f, c, shareOn(3-side, 3, kind, 1, 17))
				check(f, c, shareOn(side, 3, 1+kind%3, 1, 17))
			}
			c := colWith(side, kind, []int{42, 7})
			for _, bad := range spoiled(p) {
				check(f, c, bad)
			}
			for _, bad := range spoiledCols(c) {
				check(f, bad, p)
			}
		})
	}
}

// spread has the same collector and share, each slice of which has capacity
// left.
func spread(c impl.Col, p impl.Part) (impl.Col, impl.Part) {
	return withSum(withIds(c, withSpare(c.Ids)), withSpare(c.Sum)), withList(p, withSpare(p.List))
}

// faultWith is what a call does with its arguments that it must not do, or
// nothing; what is beyond their lengths counts, too.
func faultWith[T int | string](args [][]T, call func() [][]T) string {
	var before [][]T
	for _, a := range args {
		before = append(before, slices.Clone(whole(a)))
	}
	unchanged := func() bool {
		return slices.EqualFunc(args, before, func(a, b []T) bool { return slices.Equal(whole(a), b) })
	}
	results := call()
	if !unchanged() {
		return "changes an argument"
	}
	for _, r := range results {
		overwrite(r)
	}
	if !unchanged() {
		return "returns memory of an argument"
	}
	return ""
}

// General rules: an argument keeps its elements and those beyond its length,
// and no result has memory of an argument.
func TestColFunctionsChangeNoArgument(t *testing.T) {
	forCollectings(func(f collecting, c impl.Col, p impl.Part) {
		given, share := spread(c, p)
		args := [][]int{given.Sum, given.Ids, share.List}
		if fault := faultWith(args, func() [][]int { return f.call(given, share) }); fault != "" {
			t.Fatalf("%s of %v and %v %s", f.name, c, p, fault)
		}
	})
}

// General rules: also beyond their lengths, and if the call fails.
func TestCollectorsShareNoMemory(t *testing.T) {
	forCollectings(func(f collecting, c impl.Col, p impl.Part) {
		given, share := spread(c, p)
		if shareMemory(slices.Concat(f.call(given, share), f.call(given, share))) {
			t.Fatalf("results of %s of %v and %v share memory", f.name, c, p)
		}
	})
}

// General rules: one collector may take two shares, one apart from the other.
func TestCollectorsOfOneCollectorAreApart(t *testing.T) {
	forCols(func(side, kind int) {
		for _, id := range manyIds(8) {
			c := taken(t, collector(t, side, kind), shareOn(side, id, kind, 1, 17))
			for more := 10; more <= 16; more++ {
				first := taken(t, c, shareOn(side, more, kind, 0, 5))
				kept := copyOfCol(first)
				second := taken(t, c, shareOn(side, more+10, kind, 1, 500))
				_, _ = append(c.Ids, 77, 77), append(c.Sum, 66, 66)
				if !sameCol(first, kept) || !slices.Equal(second.Ids, slices.Concat(c.Ids, []int{more + 10})) {
					t.Fatalf("of %v, the collectors become %v and %v", c, first, second)
				}
				c = first
			}
		}
	})
}

// extendable says whether slices keep their elements when each is extended.
func extendable[T int | string](results [][]T) bool {
	var before [][]T
	for _, r := range results {
		before = append(before, slices.Clone(r))
	}
	for _, r := range results {
		other := as[T](9)
		_ = append(r, other, other, other, other)
	}
	return slices.EqualFunc(results, before, slices.Equal[[]T])
}

// General rules: the sum and the Ids of a result can both be extended.
func TestSlicesOfCollectorsCanBeExtended(t *testing.T) {
	forCollectings(func(f collecting, c impl.Col, p impl.Part) {
		if results := f.call(c, p); !extendable(results) {
			t.Fatalf("the results of %s of %v and %v become %v", f.name, c, p, results)
		}
	})
}

// General rules: all slices may be parts of one slice, or the same one.
func TestColFunctionsOfPartsOfOneSlice(t *testing.T) {
	forCols(func(side, kind int) {
		many := lengths()[kind]
		l := elements()[1 : 1+listLengths()[kind]]
		for _, all := range [][]int{slices.Clone(l), withSpare(l)} {
			p := impl.Part{Id: 42, Kind: kind, Side: side, List: all}
			same := impl.Col{Side: side, Kind: kind, Sum: all[:many], Ids: all[:many]}
			colIs(t, same, true)
			hasIs(t, same, many, true)
			got := taken(t, same, p)
			if !slices.Equal(got.Sum, sumOf(l[:many], l[:many])) || !slices.Equal(got.Ids, slices.Concat(l[:many], []int{42})) {
				t.Errorf("ColTake(%v, %v) is %v", same, p, got)
			}
			p.Id = 1
			kept, ok := impl.ColTake(same, p)
			if ok || !sameCol(kept, same) || shareMemory([][]int{kept.Sum, kept.Ids}) {
				t.Errorf("ColTake(%v, %v) is %v, %t", same, p, kept, ok)
			}
			behind := impl.Col{Side: side, Kind: kind, Sum: all[1 : 1+many], Ids: all[2:4]}
			p.Id = 42
			taken(t, behind, p)
			p.Id = 3
			changesNothing(t, behind, p)
			if !slices.Equal(all, l) {
				t.Fatalf("%v becomes %v", l, all)
			}
		}
	})
}

// General rules: no collector or share is kept to tell it by.
func TestColFunctionsReadTheirArgumentsAnew(t *testing.T) {
	c := impl.Col{Side: 1, Kind: 3, Sum: []int{1, 2, 3}, Ids: []int{5, 6}}
	p := impl.Part{Id: 7, Kind: 3, Side: 1, List: make([]int, 12)}
	for range 2 {
		for val := range 8 {
			copy(p.List, shareOn(1, 7, 3, val, 77).List)
			taken(t, c, p)
			c.Ids[1] = 7
			changesNothing(t, c, p)
			hasIs(t, c, 6, false)
			c.Ids[1] = 5
			givesNothing(t, c, p)
			c.Ids[1] = 6
			c.Sum[2] = 31
			colIs(t, c, false)
			hasIs(t, c, 6, false)
			givesNothing(t, c, p)
			c.Sum[2] = val
			p.List[11] = -1
			givesNothing(t, c, p)
		}
	}
}

// General rules: a goroutine that is still at work after the call would use the
// slices that are overwritten here.
func TestColTakeIsDoneWhenItReturns(t *testing.T) {
	for range 50 {
		forCols(func(side, kind int) {
			c, p := colWith(side, kind, manyIds(5)), plainShare(side, 11, kind)
			want, _ := takenBy(copyOfCol(c), p)
			got, ok := impl.ColTake(c, p)
			overwrite(c.Sum)
			overwrite(c.Ids)
			overwrite(p.List)
			if !ok || !sameCol(got, want) {
				t.Fatalf("ColTake is %v, %t, not %v", got, ok, want)
			}
		})
	}
}

// General rules: calls at the same time keep no state.
func TestColFunctionsAtTheSameTime(t *testing.T) {
	var callers sync.WaitGroup
	for range 8 {
		callers.Go(func() {
			forColRuns(func(kind int, reports [][3]int) {
				for side := 1; side <= 2; side++ {
					c, made := impl.ColNew(side, kind)
					for _, r := range reports {
						p := shareOn(side, r[0], kind, r[1], r[2])
						want, _ := takenBy(c, p)
						got, ok := impl.ColTake(c, p)
						if !made || !ok || !sameCol(got, want) || !impl.ColOk(got) || !impl.ColHas(got, p.Id) {
							t.Errorf("ColTake(%v, %v) is %v, %t", c, p, got, ok)
						}
						c = got
					}
				}
			})
		})
	}
	callers.Wait()
}

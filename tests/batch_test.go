package tests

import (
	"math"
	"slices"
	"sync"
	"testing"

	"loop.example/scrutineer/impl"
)

// noNeeds has numbers that are no Need, some of which are one in a smaller
// integer type.
func noNeeds() []int {
	return append(outside(9), 0, 1<<8+1, 1<<16+9, 1<<32+5, math.MinInt+1)
}

// weights has those of each type.
func weights() map[int][]int {
	return map[int][]int{1: {1}, 2: {0, 1, 2, 3}, 3: {1, 2, 4}}
}

// batchOf has a batch that was not made by the program.
func batchOf(kind, need int, ids, one, two []int) impl.Batch {
	return impl.Batch{
		One:  impl.Col{Side: 1, Kind: kind, Sum: slices.Clone(one), Ids: slices.Clone(ids)},
		Two:  impl.Col{Side: 2, Kind: kind, Sum: slices.Clone(two), Ids: slices.Clone(ids)},
		Need: need,
	}
}

// batchWith has one with drawn elements.
func batchWith(kind, need int, ids []int) impl.Batch {
	d := draw(83)
	many := lengths()[kind]
	return batchOf(kind, need, ids, d.poly(many), d.poly(many))
}

// sumPairs has sums of both collectors: the least and the greatest elements and
// others, some of which pass FieldSize together.
func sumPairs(kind int) [][2][]int {
	d := draw(84)
	many := lengths()[kind]
	zero, greatest := make([]int, many), slices.Repeat([]int{last}, many)
	return [][2][]int{
		{zero, zero}, {zero, greatest}, {greatest, greatest}, {greatest, slices.Repeat([]int{1}, many)},
		{elements()[1 : 1+many], d.poly(many)}, {d.poly(many), d.poly(many)},
	}
}

// batchesOf has batches with no Ids, some and ColMax of them, with several Needs
// and sums.
func batchesOf(kind int) []impl.Batch {
	var all []impl.Batch
	for _, ids := range [][]int{nil, {}, {1}, {99, 1}, manyIds(5), manyIds(8), manyIds(9)} {
		for _, sums := range sumPairs(kind) {
			for _, need := range []int{1, 2, 9} {
				all = append(all, batchOf(kind, need, ids, sums[0], sums[1]))
			}
		}
	}
	return all
}

func forBatches(check func(b impl.Batch)) {
	for kind := range lengths() {
		for _, b := range batchesOf(kind) {
			check(b)
		}
	}
}

func withOne(b impl.Batch, c impl.Col) impl.Batch {
	b.One = c
	return b
}

func withTwo(b impl.Batch, c impl.Col) impl.Batch {
	b.Two = c
	return b
}

func withNeed(b impl.Batch, need int) impl.Batch {
	b.Need = need
	return b
}

func withSide(c impl.Col, side int) impl.Col {
	c.Side = side
	return c
}

// exchanged is a batch with both collectors at the place of the other.
func exchanged(b impl.Batch) impl.Batch {
	return impl.Batch{One: b.Two, Two: b.One, Need: b.Need}
}

// copyOfBatch is a batch with slices of its own.
func copyOfBatch(b impl.Batch) impl.Batch {
	return impl.Batch{One: copyOfCol(b.One), Two: copyOfCol(b.Two), Need: b.Need}
}

func sameBatch(b, c impl.Batch) bool {
	return sameCol(b.One, c.One) && sameCol(b.Two, c.Two) && b.Need == c.Need
}

// rightBatch follows the text of the document.
func rightBatch(b impl.Batch) bool {
	return rightCol(b.One) && rightCol(b.Two) && b.One.Side == 1 && b.Two.Side == 2 &&
		b.One.Kind == b.Two.Kind && slices.Equal(b.One.Ids, b.Two.Ids) && 1 <= b.Need && b.Need <= 9
}

// batchAfter is what BatchTake is to return, as the document describes it.
func batchAfter(b impl.Batch, p, q impl.Part, at, w int) (impl.Batch, bool) {
	if !rightBatch(b) || !rightPair(p, q) {
		return impl.Batch{}, false
	}
	if at < firstPoints()[p.Kind] || at > 30 || w < 0 || w > 30 || !acceptsBoth(p, q, at, w) {
		return b, false
	}
	one, mayOne := takenBy(b.One, p)
	two, mayTwo := takenBy(b.Two, q)
	if !mayOne || !mayTwo {
		return b, false
	}
	return impl.Batch{One: one, Two: two, Need: b.Need}, true
}

// toldOf is what BatchTell is to return.
func toldOf(b impl.Batch) ([]int, int, bool) {
	if !rightBatch(b) || len(b.One.Ids) < b.Need {
		return nil, 0, false
	}
	return sumOf(b.One.Sum, b.Two.Sum), len(b.One.Ids), true
}

// totalOf is what BatchTotal is to return.
func totalOf(b impl.Batch) (int, bool) {
	told, _, may := toldOf(b)
	total := 0
	for i, n := range told {
		total += weights()[b.One.Kind][i] * n
	}
	return total, may
}

func newBatch(t *testing.T, kind, need int) impl.Batch {
	t.Helper()
	b, ok := impl.BatchNew(kind, need)
	if !ok {
		t.Fatalf("BatchNew(%d, %d) fails", kind, need)
	}
	return b
}

func newBatchFails(t *testing.T, kind, need int) {
	t.Helper()
	if b, ok := impl.BatchNew(kind, need); ok || !sameBatch(b, impl.Batch{}) {
		t.Errorf("BatchNew(%d, %d) is %v, %t", kind, need, b, ok)
	}
}

func batchIs(t *testing.T, b impl.Batch, want bool) {
	t.Helper()
	if got := impl.BatchOk(b); got != want {
		t.Errorf("BatchOk(%v) is %t", b, got)
	}
}

// batchTakingIsRight compares with the text of the document, and has what the
// program returns.
func batchTakingIsRight(t *testing.T, b impl.Batch, p, q impl.Part, at, w int) (impl.Batch, bool) {
	t.Helper()
	before := copyOfBatch(b)
	want, may := batchAfter(before, copyOf(p), copyOf(q), at, w)
	got, ok := impl.BatchTake(b, p, q, at, w)
	if ok != may || !sameBatch(got, want) {
		t.Fatalf("BatchTake(%v, %v, %v, %d, %d) is %v, %t, not %v, %t", before, p, q, at, w, got, ok, want, may)
	}
	return got, ok
}

// batchTakes is the batch after a report that it can take.
func batchTakes(t *testing.T, b impl.Batch, p, q impl.Part, at, w int) impl.Batch {
	t.Helper()
	got, ok := batchTakingIsRight(t, b, p, q, at, w)
	if !ok {
		t.Fatalf("BatchTake(%v, %v, %v, %d, %d) fails", b, p, q, at, w)
	}
	batchIs(t, got, true)
	hasIs(t, got.One, p.Id, true)
	hasIs(t, got.Two, p.Id, true)
	return got
}

// batchKeeps checks that a valid batch does not take shares that match.
func batchKeeps(t *testing.T, b impl.Batch, p, q impl.Part, at, w int) {
	t.Helper()
	before := copyOfBatch(b)
	if got, ok := impl.BatchTake(b, p, q, at, w); ok || !sameBatch(got, before) {
		t.Errorf("BatchTake(%v, %v, %v, %d, %d) is %v, %t", before, p, q, at, w, got, ok)
	}
}

// batchGivesNothing checks a call with an invalid batch, or with shares that do
// not match.
func batchGivesNothing(t *testing.T, b impl.Batch, p, q impl.Part, at, w int) {
	t.Helper()
	if got, ok := impl.BatchTake(b, p, q, at, w); ok || !sameBatch(got, impl.Batch{}) {
		t.Errorf("BatchTake(%v, %v, %v, %d, %d) is %v, %t", b, p, q, at, w, got, ok)
	}
}

// tellingIsRight compares with the text of the document.
func tellingIsRight(t *testing.T, b impl.Batch) {
	t.Helper()
	want, wantMany, may := toldOf(b)
	if got, many, ok := impl.BatchTell(b); ok != may || many != wantMany || !slices.Equal(got, want) {
		t.Errorf("BatchTell(%v) is %v, %d, %t, not %v, %d, %t", b, got, many, ok, want, wantMany, may)
	}
	wantTotal, _ := totalOf(b)
	if got, ok := impl.BatchTotal(b); ok != may || got != wantTotal {
		t.Errorf("BatchTotal(%v) is %d, %t, not %d, %t", b, got, ok, wantTotal, may)
	}
}

func tells(t *testing.T, b impl.Batch, sums []int, many, total int) {
	t.Helper()
	if got, n, ok := impl.BatchTell(b); !ok || n != many || !slices.Equal(got, sums) {
		t.Errorf("BatchTell(%v) is %v, %d, %t, not %v, %d", b, got, n, ok, sums, many)
	}
	if got, ok := impl.BatchTotal(b); !ok || got != total {
		t.Errorf("BatchTotal(%v) is %d, %t, not %d", b, got, ok, total)
	}
}

func tellsNothing(t *testing.T, b impl.Batch) {
	t.Helper()
	if got, many, ok := impl.BatchTell(b); ok || many != 0 || len(got) != 0 {
		t.Errorf("BatchTell(%v) is %v, %d, %t", b, got, many, ok)
	}
	if got, ok := impl.BatchTotal(b); ok || got != 0 {
		t.Errorf("BatchTotal(%v) is %d, %t", b, got, ok)
	}
}

// isNoBatch checks every function with an invalid batch, and a report that no
// valid batch of its type has.
func isNoBatch(t *testing.T, b impl.Batch, p, q impl.Part) {
	t.Helper()
	batchIs(t, b, false)
	tellsNothing(t, b)
	batchGivesNothing(t, b, p, q, 9, 7)
}

// Chapter 23: this compiles only if the fields are those of the document.
func TestBatchHasTheFieldsOfTheDocument(t *testing.T) {
	fields := struct {
		One  impl.Col
		Two  impl.Col
		Need int
	}(impl.Batch{One: impl.Col{Side: 1}, Two: impl.Col{Side: 2}, Need: 3})
	if fields.One.Side != 1 || fields.Two.Side != 2 || fields.Need != 3 {
		t.Errorf("the fields are %v", fields)
	}
}

// P83
func TestBatchNewOfEachTypeAndNeed(t *testing.T) {
	for kind, many := range lengths() {
		for need := 1; need <= 9; need++ {
			b := newBatch(t, kind, need)
			if !sameBatch(b, batchOf(kind, need, nil, make([]int, many), make([]int, many))) {
				t.Errorf("BatchNew(%d, %d) is %v", kind, need, b)
			}
			if !sameCol(b.One, collector(t, 1, kind)) || !sameCol(b.Two, collector(t, 2, kind)) {
				t.Errorf("BatchNew(%d, %d) is %v", kind, need, b)
			}
			batchIs(t, b, true)
			tellsNothing(t, b)
		}
	}
}

// P83
func TestBatchNewOfNumbersAroundTheEnds(t *testing.T) {
	for kind := -300; kind <= 300; kind++ {
		for need := -300; need <= 300; need++ {
			if 1 <= kind && kind <= 3 && 1 <= need && need <= 9 {
				newBatch(t, kind, need)
			} else {
				newBatchFails(t, kind, need)
			}
		}
	}
}

// P83: also both at once.
func TestBatchNewOfInvalidTypesAndNeeds(t *testing.T) {
	for _, need := range noNeeds() {
		for kind := range lengths() {
			newBatchFails(t, kind, need)
		}
		for _, kind := range []int{0, 4, -1, need, math.MinInt, math.MaxInt} {
			if kind < 1 || kind > 3 {
				newBatchFails(t, kind, need)
			}
		}
	}
	for _, kind := range noKinds() {
		for _, need := range []int{0, 1, 2, impl.ColMax, impl.ColMax + 1, kind} {
			newBatchFails(t, kind, need)
		}
	}
}

// Chapter 23: every batch is valid that is as the document says, also if the
// program does not make it.
func TestBatchOkOfValidBatches(t *testing.T) {
	forBatches(func(b impl.Batch) {
		for need := 1; need <= 9; need++ {
			batchIs(t, withNeed(b, need), true)
		}
		batchIs(t, spreadBatch(b), true)
	})
}

// Chapter 23, P90
func TestBatchOkOfEachNeed(t *testing.T) {
	forBatches(func(b impl.Batch) {
		for need := -40; need <= 80; need++ {
			batchIs(t, withNeed(b, need), 1 <= need && need <= 9)
		}
		for _, need := range noNeeds() {
			batchIs(t, withNeed(b, need), false)
			tellsNothing(t, withNeed(b, need))
		}
	})
}

// colsOfSomeSorts has collectors of which some are valid, with each side, type
// and number of Ids next to a limit, and with the same Ids in two orders.
func colsOfSomeSorts() []impl.Col {
	var all []impl.Col
	for _, side := range []int{0, 1, 2, 3} {
		for _, kind := range []int{0, 1, 2, 3, 4} {
			for _, ids := range [][]int{nil, {1}, {2}, {1, 2}, {2, 1}, {1, 1}, manyIds(9), manyIds(10)} {
				all = append(all, impl.Col{Side: side, Kind: kind, Sum: slices.Repeat([]int{7}, lengths()[kind]), Ids: ids})
			}
		}
	}
	return all
}

// Chapter 23: of every two collectors, of which any or both may be invalid.
func TestBatchOkOfAllSorts(t *testing.T) {
	valid := 0
	for _, one := range colsOfSomeSorts() {
		for _, two := range colsOfSomeSorts() {
			for _, need := range []int{0, 1, 9, 10} {
				b := impl.Batch{One: one, Two: two, Need: need}
				want := rightBatch(b)
				if want {
					valid++
				}
				batchIs(t, b, want)
			}
		}
	}
	// So many types, slices of Ids, and Needs.
	if valid != 3*6*2 {
		t.Errorf("%d batches are valid", valid)
	}
}

// P90: with a report that just one collector recorded, at each side.
func TestBatchWithAReportOfOneSideIsInvalid(t *testing.T) {
	for kind := range lengths() {
		for many := range 9 {
			b := batchWith(kind, 1, manyIds(many))
			p, q := report(t, 64, kind, 1, 17)
			other, otherQ := report(t, 5, kind, 0, 500)
			one, two := taken(t, b.One, p), taken(t, b.Two, q)
			batchIs(t, b, true)
			isNoBatch(t, withOne(b, one), other, otherQ)
			isNoBatch(t, withTwo(b, two), other, otherQ)
			batchGivesNothing(t, withOne(b, one), p, q, 9, 7)
			batchGivesNothing(t, withTwo(b, two), p, q, 9, 7)
			// Each has one that the other lacks.
			isNoBatch(t, impl.Batch{One: one, Two: taken(t, b.Two, otherQ), Need: 1}, other, otherQ)
			batchIs(t, impl.Batch{One: one, Two: two, Need: 1}, true)
		}
	}
}

// otherIds has Ids that differ from some: with one less at each place, one more,
// another one, and in another order.
func otherIds(ids []int) [][]int {
	other := [][]int{slices.Concat(ids, []int{64}), slices.Concat([]int{64}, ids)}
	for i := range ids {
		other = append(other, slices.Delete(slices.Clone(ids), i, i+1), replaced(ids, i, 64))
		for j := range i {
			other = append(other, replaced(replaced(ids, i, ids[j]), j, ids[i]))
		}
	}
	if len(ids) > 1 {
		back := slices.Clone(ids)
		slices.Reverse(back)
		other = append(other, back, slices.Concat(ids[1:], ids[:1]), nil)
	}
	return other
}

// P90, chapter 23
func TestBatchWithOtherIdsOnOneSideIsInvalid(t *testing.T) {
	for kind := range lengths() {
		p, q := reportOf(31, kind, 1, 17)
		for _, ids := range [][]int{nil, {7}, {7, 8}, manyIds(5), manyIds(8), manyIds(9)} {
			b := batchWith(kind, 1, ids)
			batchIs(t, b, true)
			for _, other := range otherIds(ids) {
				isNoBatch(t, withOne(b, withIds(b.One, other)), p, q)
				isNoBatch(t, withTwo(b, withIds(b.Two, other)), p, q)
				both := withOne(withTwo(b, withIds(b.Two, other)), withIds(b.One, other))
				batchIs(t, both, len(other) <= 9)
			}
		}
	}
}

// Chapter 23: what is beyond the length of the Ids is none of them.
func TestBatchOkCountsOnlyTheLengthOfTheIds(t *testing.T) {
	for kind := range lengths() {
		for many := range 10 {
			b := batchWith(kind, 1, manyIds(many))
			b.One.Ids, b.Two.Ids = manyIds(11)[:many], withSpare(manyIds(many))
			batchIs(t, b, true)
			tellingIsRight(t, b)
			b.Two.Ids = b.Two.Ids[:many+1]
			batchIs(t, b, false)
		}
	}
}

// P90: exchanged, and with two collectors of one side.
func TestBatchWithTheSidesExchangedIsInvalid(t *testing.T) {
	forBatches(func(b impl.Batch) {
		p, q := reportOf(64, b.One.Kind, 1, 17)
		for _, bad := range []impl.Batch{
			exchanged(b), withOne(b, b.Two), withTwo(b, b.One), withOne(b, withSide(b.One, 2)), withTwo(b, withSide(b.Two, 1)),
			withOne(withTwo(b, withSide(b.Two, 1)), withSide(b.One, 2)),
		} {
			isNoBatch(t, bad, p, q)
			batchGivesNothing(t, bad, q, p, 9, 7)
		}
		batchIs(t, exchanged(exchanged(b)), true)
	})
}

// Chapter 23: each is valid alone.
func TestBatchOfTwoTypesIsInvalid(t *testing.T) {
	for kind := range lengths() {
		for other := range lengths() {
			for _, ids := range [][]int{nil, {42}, manyIds(9)} {
				mixed := withTwo(batchWith(kind, 1, ids), batchWith(other, 1, ids).Two)
				colIs(t, mixed.One, true)
				colIs(t, mixed.Two, true)
				batchIs(t, mixed, kind == other)
				if kind == other {
					continue
				}
				for _, reportKind := range []int{kind, other} {
					p, q := reportOf(64, reportKind, 1, 17)
					isNoBatch(t, mixed, p, q)
				}
			}
		}
	}
}

// P90: as the program makes it.
func TestValidBatchesBecomeInvalid(t *testing.T) {
	forColRuns(func(kind int, reports [][3]int) {
		b := newBatch(t, kind, 1)
		for i, r := range reports {
			p, q := reportOf(r[0], kind, r[1], r[2])
			isNoBatch(t, withOne(b, taken(t, b.One, p)), p, q)
			isNoBatch(t, withTwo(b, taken(t, b.Two, q)), p, q)
			isNoBatch(t, exchanged(b), p, q)
			isNoBatch(t, withNeed(b, 0), p, q)
			isNoBatch(t, withNeed(b, 10), p, q)
			b = batchTakes(t, b, p, q, somePoints(kind)[i%6], i)
		}
	})
}

// spoiledBatches has a batch with each fault of either collector alone, of both
// together and of Need, and with several faults together.
func spoiledBatches(b impl.Batch) []impl.Batch {
	bad := []impl.Batch{{}, {Need: b.Need}, {One: b.One, Need: b.Need}, {Two: b.Two, Need: b.Need}, exchanged(b), {One: b.One, Two: b.Two}}
	ones, twos := spoiledCols(b.One), spoiledCols(b.Two)
	for i := range ones {
		bad = append(bad, withOne(b, ones[i]), withTwo(b, twos[i]), impl.Batch{One: ones[i], Two: twos[i], Need: b.Need})
		if i%9 == 0 {
			bad = append(bad, impl.Batch{One: ones[i], Two: twos[i]}, withNeed(withOne(b, ones[i]), 10), withNeed(withTwo(b, twos[i]), -1))
		}
	}
	for _, need := range noNeeds() {
		bad = append(bad, withNeed(b, need), withNeed(exchanged(b), need))
	}
	for _, n := range []int{math.MinInt, -1, 0, 100, math.MaxInt} {
		c := impl.Col{Side: n, Kind: n, Sum: slices.Repeat([]int{n}, len(b.One.Sum)), Ids: []int{n}}
		bad = append(bad, impl.Batch{One: c, Two: c, Need: n}, impl.Batch{One: c, Two: c, Need: 1}, impl.Batch{One: b.One, Two: c, Need: n}, impl.Batch{One: c, Two: b.Two, Need: n})
	}
	return bad
}

// Chapter 23: also with a query that is none, with shares that do not match, and
// with a report that the batch has.
func TestFunctionsOfInvalidBatches(t *testing.T) {
	for kind := range lengths() {
		p, q := reportOf(64, kind, 1, 17)
		again, againQ := reportOf(42, kind, 1, 17)
		for _, ids := range [][]int{{42}, {42, 7}, manyIds(9)} {
			for _, b := range spoiledBatches(batchWith(kind, 1, ids)) {
				isNoBatch(t, b, p, q)
				for _, query := range [][2]int{{0, 7}, {9, -1}, {9, impl.FieldSize}, {impl.FieldSize, impl.FieldSize}, {math.MinInt, math.MaxInt}} {
					batchGivesNothing(t, b, p, q, query[0], query[1])
				}
				batchGivesNothing(t, b, again, againQ, 9, 7)
				batchGivesNothing(t, b, q, p, 9, 7)
				batchGivesNothing(t, b, impl.Part{}, impl.Part{}, 9, 7)
			}
		}
	}
}

// P83, P88: the zero value is none.
func TestTheZeroBatchIsInvalid(t *testing.T) {
	isNoBatch(t, impl.Batch{}, impl.Part{}, impl.Part{})
	for need := range 11 {
		isNoBatch(t, impl.Batch{Need: need}, impl.Part{}, impl.Part{})
	}
}

// P84: of reports that are accepted and ones that are not, new ones and ones
// that are recorded, of each type.
func TestBatchTakeOfManyBatchesAndReports(t *testing.T) {
	forBatches(func(b impl.Batch) {
		for kind := range lengths() {
			for i, id := range []int{64, 42, 1, 99} {
				p, q := reportOf(id, kind, i%2, 17)
				spoilt := withList(p, replaced(p.List, 0, (p.List[0]+7)%31))
				for _, at := range []int{2, 5, 9, last} {
					batchTakingIsRight(t, b, p, q, at, i)
					batchTakingIsRight(t, b, spoilt, q, at, last-i)
				}
			}
		}
	})
}

// P84: as its text says it.
func TestBatchTakeNeedsThatBothCollectorsTakeTheReport(t *testing.T) {
	taking := 0
	lists := make(map[int][][]int)
	for kind := range lengths() {
		lists[kind] = [][]int{wholeOf(kind, 1, 17), listsOf(kind)[0], reaching(kind)[0]}
	}
	forBatches(func(b impl.Batch) {
		for kind, some := range lists {
			for _, l := range some {
				for _, id := range []int{64, 42} {
					p, q := bothOf(id, kind, l, drawnBy(500, len(l)))
					one, okOne := impl.ColTake(b.One, p)
					two, okTwo := impl.ColTake(b.Two, q)
					accepted := impl.PartsTake(p, q, 17, 7)
					want := b
					if accepted && okOne && okTwo {
						want.One, want.Two = one, two
						taking++
					}
					got, ok := impl.BatchTake(b, p, q, 17, 7)
					if ok != (accepted && okOne && okTwo) || !sameBatch(got, want) {
						t.Errorf("BatchTake(%v, %v, %v, 17, 7) is %v, %t", b, p, q, got, ok)
					}
				}
			}
		}
	})
	if taking == 0 {
		t.Error("no batch takes a report")
	}
}

// P84, P92: of lists of which only some have a correct proof, in several shares.
func TestBatchTakeOfAnyLists(t *testing.T) {
	forLists(func(kind int, l []int) {
		for i, drawn := range splitsOf(l)[2:] {
			b := batchWith(kind, 1, manyIds(2*i))
			p, q := bothOf(64, kind, l, drawn)
			for _, at := range somePoints(kind) {
				got, ok := batchTakingIsRight(t, b, p, q, at, 7)
				batchIs(t, got, true)
				hasIs(t, got.One, 64, ok)
				hasIs(t, got.Two, 64, ok)
			}
		}
	})
}

// P84, P92: at every query.
func TestBatchTakeOfSpoiltReports(t *testing.T) {
	forSpoilt(64, func(p, q impl.Part, at, w int, want bool) {
		b := batchWith(p.Kind, 1, []int{42, 7})
		if want {
			batchTakes(t, b, p, q, at, w)
		} else {
			batchKeeps(t, b, p, q, at, w)
		}
	})
}

// P92: each element of either share, with a new batch, one that has something,
// and one with a single place left.
func TestBatchTakeOfReportsWithASpoiltElement(t *testing.T) {
	kept := 0
	forEncodings(func(kind, val int, _ []int) {
		for _, b := range []impl.Batch{newBatch(t, kind, 1), batchWith(kind, 2, []int{42, 7}), batchWith(kind, 9, manyIds(8))} {
			p, q := report(t, 64, kind, val, 77)
			for place := range p.List {
				one := withList(p, replaced(p.List, place, (p.List[place]+1)%31))
				two := withList(q, replaced(q.List, place, (q.List[place]+29)%31))
				for _, pair := range [][2]impl.Part{{one, q}, {p, two}, {one, two}} {
					if _, ok := batchTakingIsRight(t, b, pair[0], pair[1], 13, 11); !ok {
						kept++
						batchKeeps(t, b, pair[0], pair[1], 13, 11)
					}
				}
			}
			batchTakes(t, b, p, q, 13, 11)
		}
	})
	if kept < 1000 {
		t.Errorf("only %d reports are rejected", kept)
	}
}

// P92: a call that fails leaves the batch as it is for the next one.
func TestBatchTakeAfterOneThatFails(t *testing.T) {
	forEncodings(func(kind, val int, _ []int) {
		b := batchWith(kind, 1, []int{42})
		p, q := reportOf(64, kind, val, 17)
		bad := withList(p, replaced(p.List, len(p.List)-1, (p.List[len(p.List)-1]+1)%31))
		for range 3 {
			again, ok := impl.BatchTake(b, bad, q, 9, 7)
			if ok || !sameBatch(again, b) {
				t.Fatalf("BatchTake(%v, %v, %v, 9, 7) is %v, %t", b, bad, q, again, ok)
			}
			if !sameBatch(batchTakes(t, again, p, q, 9, 7), batchTakes(t, b, p, q, 9, 7)) {
				t.Errorf("%v after %v is not as before", again, bad)
			}
			b = again
		}
	})
}

// P84: as the document names them.
func TestBatchTakeAtTheEnds(t *testing.T) {
	forEncodings(func(kind, val int, _ []int) {
		for _, b := range []impl.Batch{newBatch(t, kind, 2), batchWith(kind, 1, manyIds(8))} {
			p, q := reportOf(64, kind, val, 77)
			for at, point := range map[int]bool{
				-1: false, 0: false, lengths()[kind]: false, lengths()[kind] + 1: true, impl.FieldSize - 1: true, impl.FieldSize: false,
			} {
				for w, element := range map[int]bool{-1: false, 0: true, impl.FieldSize - 1: true, impl.FieldSize: false} {
					if point && element {
						batchTakes(t, b, p, q, at, w)
					} else {
						batchKeeps(t, b, p, q, at, w)
					}
				}
			}
		}
	})
}

// Chapter 23: also both at once.
func TestBatchTakeAtInvalidQueries(t *testing.T) {
	forEncodings(func(kind, val int, _ []int) {
		b := batchWith(kind, 1, []int{42, 7})
		p, q := reportOf(64, kind, val, 77)
		again, againQ := reportOf(42, kind, val, 77)
		invalid := slices.Concat(notElements(), outside(last))
		for _, at := range noPoints(kind) {
			for _, w := range []int{0, 7, last, -1, impl.FieldSize, math.MinInt, math.MaxInt, at} {
				batchKeeps(t, b, p, q, at, w)
				batchKeeps(t, b, again, againQ, at, w)
				batchGivesNothing(t, b, q, p, at, w)
			}
		}
		for _, w := range invalid {
			for _, at := range somePoints(kind) {
				batchKeeps(t, b, p, q, at, w)
				batchGivesNothing(t, b, p, againQ, at, w)
			}
			batchKeeps(t, b, p, q, w, w)
		}
	})
}

// P63, P87: at every query.
func TestBatchTakeAtEveryQuery(t *testing.T) {
	for kind, val := range map[int]int{1: 1, 2: 2, 3: 5} {
		b := batchWith(kind, 1, []int{42, 7})
		p, q := reportOf(64, kind, val, 77)
		want := batchTakes(t, b, p, q, 9, 7)
		forQueries(kind, func(at, w int) {
			if got := batchTakes(t, b, p, q, at, w); !sameBatch(got, want) {
				t.Errorf("BatchTake(%v, %v, %v, %d, %d) is %v, not %v", b, p, q, at, w, got, want)
			}
		})
	}
}

// Chapter 23: the query points of one type are not those of another.
func TestBatchTakeOfReportsOfAnotherType(t *testing.T) {
	forBatches(func(b impl.Batch) {
		for kind := range lengths() {
			if kind == b.One.Kind {
				continue
			}
			for _, id := range []int{64, 42} {
				p, q := reportOf(id, kind, 1, 17)
				for at := -1; at <= impl.FieldSize; at++ {
					batchKeeps(t, b, p, q, at, 7)
				}
				batchKeeps(t, b, p, q, 9, impl.FieldSize)
			}
		}
	})
}

// Chapter 23: in either order, one of them twice, and of two reports.
func TestBatchTakeOfSharesThatDoNotMatch(t *testing.T) {
	forEncodings(func(kind, val int, _ []int) {
		p, q := reportOf(64, kind, val, 17)
		other, otherQ := reportOf(5, kind, val, 17)
		otherKind, otherKindQ := reportOf(64, 1+kind%3, 1, 17)
		again, againQ := reportOf(42, kind, val, 17)
		for _, b := range []impl.Batch{newBatch(t, kind, 1), batchWith(kind, 2, []int{42, 7}), batchWith(kind, 1, manyIds(9))} {
			for _, pair := range [][2]impl.Part{
				{q, p}, {p, p}, {q, q}, {p, otherQ}, {other, q}, {p, other}, {otherQ, q}, {p, otherKindQ}, {otherKind, q},
				{p, againQ}, {again, q}, {againQ, again}, {{}, {}}, {p, {}}, {{}, q},
			} {
				for at := -1; at <= impl.FieldSize; at++ {
					batchGivesNothing(t, b, pair[0], pair[1], at, 7)
				}
				batchGivesNothing(t, b, pair[0], pair[1], 9, -1)
			}
		}
	})
}

// Chapter 23: a fault in either share, and the same one in both.
func TestBatchTakeOfInvalidShares(t *testing.T) {
	for kind := range lengths() {
		for _, b := range []impl.Batch{newBatch(t, kind, 1), batchWith(kind, 2, []int{42, 7}), batchWith(kind, 1, manyIds(9))} {
			for _, id := range []int{64, 42} {
				p, q := reportOf(id, kind, 1, 77)
				badP, badQ := spoiled(p), spoiled(q)
				for i := range badP {
					for _, pair := range [][2]impl.Part{{badP[i], q}, {p, badQ[i]}, {badP[i], badQ[i]}} {
						batchGivesNothing(t, b, pair[0], pair[1], 9, 7)
					}
					batchGivesNothing(t, b, badP[i], q, 0, 7)
					batchGivesNothing(t, b, p, badQ[i], 9, impl.FieldSize)
				}
			}
		}
	}
}

// Chapter 23: the smallest and the largest numbers, in several places at once.
func TestBatchTakeOfInvalidArgumentsTogether(t *testing.T) {
	for kind := range lengths() {
		b := batchWith(kind, 1, []int{42, 7})
		p, q := reportOf(64, kind, 1, 77)
		bad, shares := spoiledBatches(b), spoiled(p)
		for i, c := range bad {
			for j := i % 29; j < len(shares); j += 29 {
				batchGivesNothing(t, c, shares[j], q, 9, 7)
			}
		}
		for _, n := range notElements() {
			part := impl.Part{Id: n, Kind: n, Side: n, List: slices.Repeat([]int{n}, len(p.List))}
			col := impl.Col{Side: n, Kind: n, Sum: slices.Repeat([]int{n}, len(b.One.Sum)), Ids: []int{n}}
			for _, m := range notElements() {
				batchKeeps(t, b, p, q, n, m)
				batchGivesNothing(t, b, part, part, n, m)
				batchGivesNothing(t, b, p, part, n, m)
				batchGivesNothing(t, b, part, q, n, m)
				batchGivesNothing(t, impl.Batch{One: col, Two: col, Need: m}, part, part, n, m)
				batchGivesNothing(t, impl.Batch{One: col, Two: b.Two, Need: m}, p, q, n, m)
				batchGivesNothing(t, impl.Batch{One: b.One, Two: col, Need: m}, p, q, n, m)
			}
		}
	}
}

// P85: also of sums that pass FieldSize.
func TestSumOfBothCollectorsIncreasesByTheEncoding(t *testing.T) {
	forEncodings(func(kind, val int, v []int) {
		for _, seed := range someSeeds() {
			p, q := report(t, 64, kind, val, seed)
			for _, sums := range sumPairs(kind) {
				b := batchOf(kind, 1, []int{42}, sums[0], sums[1])
				got := batchTakes(t, b, p, q, 9, 7)
				if after := back(t, got.One.Sum, got.Two.Sum); !slices.Equal(after, sumOf(sumOf(sums[0], sums[1]), v)) {
					t.Errorf("after %d of type %d with the seed %d, the batch %v is %v", val, kind, seed, b, got)
				}
				told, many, ok := impl.BatchTell(got)
				if !ok || many != 2 || !slices.Equal(difOf(told, sumOf(sums[0], sums[1])), v) {
					t.Errorf("BatchTell(%v) is %v, %d, %t", got, told, many, ok)
				}
			}
		}
	})
}

// P86: at every query point, the first one among them.
func TestTakingAReportAgainChangesNothing(t *testing.T) {
	forEncodings(func(kind, val int, _ []int) {
		for _, b := range []impl.Batch{newBatch(t, kind, 1), batchWith(kind, 1, []int{42, 7})} {
			p, q := report(t, 64, kind, val, 500)
			b = batchTakes(t, b, p, q, 9, 7)
			for _, at := range points(kind) {
				for _, w := range []int{0, 7, last} {
					batchKeeps(t, b, p, q, at, w)
				}
			}
		}
	})
}

// P86: all reports that came before, again and again.
func TestTakingManyReportsAgainChangesNothing(t *testing.T) {
	forColRuns(func(kind int, reports [][3]int) {
		b := newBatch(t, kind, 1)
		for i, r := range reports {
			p, q := report(t, r[0], kind, r[1], r[2])
			b = batchTakes(t, b, p, q, 9+i, i)
			for _, again := range reports[:i+1] {
				p, q := report(t, again[0], kind, again[1], again[2])
				batchKeeps(t, b, p, q, 9+i, i)
				batchKeeps(t, b, p, q, last, 3)
			}
		}
	})
}

// P86: the Id tells whether it is the same report, not the list.
func TestTakingAnotherReportWithTheSameIdChangesNothing(t *testing.T) {
	forReports(func(id, kind, val, seed int) {
		p, q := report(t, id, kind, val, seed)
		b := batchTakes(t, newBatch(t, kind, 1), p, q, 9, 7)
		for _, other := range [][2]int{{1 - val%2, seed}, {val, 999 - seed}, {1, 17}} {
			p, q := report(t, id, kind, other[0], other[1])
			batchKeeps(t, b, p, q, 9, 7)
			batchKeeps(t, b, p, q, last, 0)
		}
		// The same lists with another Id are another report.
		p.Id, q.Id = 1+id%99, 1+id%99
		batchTakes(t, b, p, q, 9, 7)
	})
}

// P87, P94: calculated without this program.
func TestBatchTakeOfExamples(t *testing.T) {
	for _, e := range colExamples() {
		b := newBatch(t, e.kind, max(len(e.reports), 1))
		var ids []int
		total := 0
		for i, r := range e.reports {
			tellsNothing(t, b)
			p, q := report(t, r[0], e.kind, r[1], r[2])
			b = batchTakes(t, b, p, q, somePoints(e.kind)[i%6], 3*i)
			ids = append(ids, r[0])
			total += r[1]
		}
		if !sameBatch(b, batchOf(e.kind, max(len(ids), 1), ids, e.one, e.two)) {
			t.Errorf("after %v the batch is %v", e.reports, b)
		}
		if len(ids) > 0 {
			tells(t, b, sumOf(e.one, e.two), len(ids), total)
		}
	}
}

// P87, P94: as long as there is space, and then one more.
func TestBatchTakeUntilTheBatchIsFull(t *testing.T) {
	forColRuns(func(kind int, reports [][3]int) {
		b := newBatch(t, kind, 1)
		sums, total := make([]int, lengths()[kind]), 0
		for i, r := range reports {
			p, q := report(t, r[0], kind, r[1], r[2])
			b = batchTakes(t, b, p, q, points(kind)[(r[2]+i)%len(points(kind))], (r[2]+i)%31)
			sums = sumOf(sums, encodings()[kind][r[1]])
			total += r[1]
			tells(t, b, sums, i+1, total)
		}
		if len(b.One.Ids) != impl.ColMax || len(b.Two.Ids) != impl.ColMax {
			t.Errorf("the full batch is %v", b)
		}
		for _, id := range append(manyIds(11), 4, 63, 97) {
			p, q := report(t, id, kind, 1, 17)
			batchKeeps(t, b, p, q, 9, 7)
			batchKeeps(t, b, p, q, last, 0)
		}
		tells(t, b, sums, 9, total)
	})
}

// P87, P92, P94: calls that fail come between.
func TestOnlyReportsThatAreTakenCount(t *testing.T) {
	forColRuns(func(kind int, reports [][3]int) {
		b := newBatch(t, kind, 3)
		total := 0
		for i, r := range reports {
			p, q := report(t, r[0], kind, r[1], r[2])
			bad := withList(q, replaced(q.List, len(q.List)-1, (q.List[len(q.List)-1]+1)%31))
			next, _ := impl.BatchTake(b, p, bad, 9, 7)
			next, _ = impl.BatchTake(next, p, q, 0, 7)
			next, _ = impl.BatchTake(next, p, q, 9, -1)
			b = batchTakes(t, next, p, q, 9, 7)
			again, ok := impl.BatchTake(b, p, q, 9, 7)
			if ok || !sameBatch(again, b) {
				t.Errorf("BatchTake(%v, %v, %v, 9, 7) is %v, %t", b, p, q, again, ok)
			}
			b = again
			total += r[1]
			if got, ok := impl.BatchTotal(b); ok != (i >= 2) || ok && got != total {
				t.Errorf("BatchTotal(%v) is %d, %t, not %d", b, got, ok, total)
			}
		}
	})
}

// P88: no report, Need-1, Need, ColMax and each other number.
func TestBatchTellOfEachNeedAndNumberOfReports(t *testing.T) {
	for kind := range lengths() {
		for need := 1; need <= 9; need++ {
			b := newBatch(t, kind, need)
			for many := range 10 {
				if many < need {
					tellsNothing(t, b)
				} else {
					sums := back(t, b.One.Sum, b.Two.Sum)
					if got, n, ok := impl.BatchTell(b); !ok || n != many || !slices.Equal(got, sums) {
						t.Errorf("BatchTell(%v) is %v, %d, %t, not %v", b, got, n, ok, sums)
					}
				}
				tellingIsRight(t, b)
				if many < 9 {
					p, q := report(t, manyIds(9)[many], kind, many%2, 100*many)
					b = batchTakes(t, b, p, q, 9, 7)
				}
			}
		}
	}
}

// P88, P89: Need does not change what is told.
func TestBatchTellOfManyBatches(t *testing.T) {
	forBatches(func(b impl.Batch) {
		for need := range 11 {
			tellingIsRight(t, withNeed(b, need))
			tellingIsRight(t, spreadBatch(withNeed(b, need)))
		}
	})
}

// P88: of every two elements at each place.
func TestBatchTellAddsEveryTwoElements(t *testing.T) {
	for kind, many := range lengths() {
		for place := range many {
			forPairs(func(x, y int) {
				b := batchWith(kind, 2, []int{42, 7})
				b.One.Sum[place], b.Two.Sum[place] = x, y
				tellingIsRight(t, b)
				if got, _, _ := impl.BatchTell(b); len(got) != many || got[place] != (x+y)%31 || got[place] != impl.FieldSum(x, y) {
					t.Errorf("BatchTell(%v) is %v", b, got)
				}
			})
		}
	}
}

// P89: calculated by hand.
func TestBatchTotalOfExamples(t *testing.T) {
	for _, c := range []struct {
		kind  int
		one   []int
		two   []int
		sums  []int
		total int
	}{
		{1, []int{0}, []int{0}, []int{0}, 0},
		{1, []int{1}, []int{0}, []int{1}, 1},
		{1, []int{30}, []int{0}, []int{30}, 30},
		{1, []int{30}, []int{3}, []int{2}, 2},
		{2, []int{30, 0, 0, 0}, []int{0, 0, 0, 0}, []int{30, 0, 0, 0}, 0},
		{2, []int{0, 1, 0, 0}, []int{0, 0, 0, 0}, []int{0, 1, 0, 0}, 1},
		{2, []int{0, 0, 1, 0}, []int{0, 0, 0, 0}, []int{0, 0, 1, 0}, 2},
		{2, []int{0, 0, 0, 1}, []int{0, 0, 0, 0}, []int{0, 0, 0, 1}, 3},
		{2, []int{30, 30, 30, 30}, []int{0, 0, 0, 0}, []int{30, 30, 30, 30}, 180},
		{2, []int{5, 20, 30, 9}, []int{7, 20, 2, 4}, []int{12, 9, 1, 13}, 50},
		{3, []int{1, 0, 0}, []int{0, 0, 0}, []int{1, 0, 0}, 1},
		{3, []int{0, 1, 0}, []int{0, 0, 0}, []int{0, 1, 0}, 2},
		{3, []int{0, 0, 1}, []int{0, 0, 0}, []int{0, 0, 1}, 4},
		{3, []int{30, 30, 30}, []int{0, 0, 0}, []int{30, 30, 30}, 210},
		{3, []int{0, 0, 0}, []int{30, 30, 30}, []int{30, 30, 30}, 210},
		{3, []int{30, 30, 30}, []int{30, 30, 30}, []int{29, 29, 29}, 203},
		{3, []int{25, 10, 6}, []int{7, 21, 26}, []int{1, 0, 1}, 5},
	} {
		b := batchOf(c.kind, 2, []int{42, 7}, c.one, c.two)
		tells(t, b, c.sums, 2, c.total)
		tellsNothing(t, withNeed(b, 3))
		tellsNothing(t, withOne(b, withIds(b.One, []int{42})))
	}
}

// P89: of every element at each place, in whole numbers.
func TestBatchTotalIsTheWeightedSum(t *testing.T) {
	for kind, many := range lengths() {
		for place := range many {
			for n := range impl.FieldSize {
				b := batchOf(kind, 1, []int{42}, replaced(make([]int, many), place, n), make([]int, many))
				if got, ok := impl.BatchTotal(b); !ok || got != n*weights()[kind][place] {
					t.Errorf("BatchTotal(%v) is %d, %t", b, got, ok)
				}
			}
		}
	}
}

// P91: each value at each place, and vectors of several values.
func TestMovingAValueBetweenTheSumsTellsTheSame(t *testing.T) {
	d := draw(91)
	forBatches(func(b impl.Batch) {
		many := len(b.One.Sum)
		shifts := [][]int{d.poly(many), d.poly(many), slices.Repeat([]int{last}, many)}
		for place := range many {
			shifts = append(shifts, replaced(make([]int, many), place, 1), replaced(make([]int, many), place, 16))
		}
		want, wantMany, may := impl.BatchTell(b)
		wantTotal, mayTotal := impl.BatchTotal(b)
		for _, s := range shifts {
			moved := withOne(withTwo(b, withSum(b.Two, difOf(b.Two.Sum, s))), withSum(b.One, sumOf(b.One.Sum, s)))
			if got, n, ok := impl.BatchTell(moved); ok != may || n != wantMany || !slices.Equal(got, want) {
				t.Errorf("BatchTell(%v) is %v, %d, %t, but that of %v is %v, %d, %t", moved, got, n, ok, b, want, wantMany, may)
			}
			if got, ok := impl.BatchTotal(moved); ok != mayTotal || got != wantTotal {
				t.Errorf("BatchTotal(%v) is %d, %t, but that of %v is %d, %t", moved, got, ok, b, wantTotal, mayTotal)
			}
		}
	})
}

// sameTold checks that two batches tell the same.
func sameTold(t *testing.T, b, c impl.Batch) {
	t.Helper()
	got, many, ok := impl.BatchTell(b)
	other, otherMany, otherOk := impl.BatchTell(c)
	if ok != otherOk || many != otherMany || !slices.Equal(got, other) {
		t.Errorf("BatchTell(%v) is %v, %d, %t, and that of %v is %v, %d, %t", b, got, many, ok, c, other, otherMany, otherOk)
	}
	tellingIsRight(t, b)
	tellingIsRight(t, c)
}

// P93: of new reports, in every order of their values.
func TestTwoReportsInEitherOrder(t *testing.T) {
	for kind, all := range encodings() {
		for _, b := range []impl.Batch{newBatch(t, kind, 1), newBatch(t, kind, 2), newBatch(t, kind, 3), batchWith(kind, 2, manyIds(5)), batchWith(kind, 9, manyIds(7))} {
			for val := range all {
				for other := range all {
					p, q := report(t, 64, kind, val, 100*val)
					otherP, otherQ := report(t, 5, kind, other, 999-other)
					first := batchTakes(t, batchTakes(t, b, p, q, 9, 7), otherP, otherQ, last, 0)
					second := batchTakes(t, batchTakes(t, b, otherP, otherQ, last, 0), p, q, 9, 7)
					sameTold(t, first, second)
					if !slices.Equal(first.One.Ids, slices.Concat(b.One.Ids, []int{64, 5})) || !slices.Equal(second.Two.Ids, slices.Concat(b.One.Ids, []int{5, 64})) {
						t.Errorf("%v becomes %v or %v", b, first, second)
					}
				}
			}
		}
	}
}

// P93: there is space for one of them only.
func TestTwoReportsForOnePlace(t *testing.T) {
	for kind := range lengths() {
		b := batchWith(kind, 9, manyIds(8))
		p, q := report(t, 64, kind, 1, 17)
		otherP, otherQ := report(t, 5, kind, 0, 500)
		batchKeeps(t, batchTakes(t, b, p, q, 9, 7), otherP, otherQ, 9, 7)
		batchKeeps(t, batchTakes(t, b, otherP, otherQ, 9, 7), p, q, 9, 7)
	}
}

// P93, P94: of every order of four reports.
func TestReportsInEveryOrder(t *testing.T) {
	for kind, all := range encodings() {
		forTuples(4, []int{0, 1, 2, 3}, func(order []int) {
			if len(slices.Compact(slices.Sorted(slices.Values(order)))) < 4 {
				return
			}
			b := newBatch(t, kind, 4)
			sums, total := make([]int, lengths()[kind]), 0
			for _, i := range order {
				tellsNothing(t, b)
				val := (3 * i) % len(all)
				p, q := report(t, manyIds(4)[i], kind, val, 77*i)
				b = batchTakes(t, b, p, q, 9+i, i)
				sums, total = sumOf(sums, all[val]), total+val
			}
			tells(t, b, sums, 4, total)
		})
	}
}

// P94: of as many reports as there can be, all of one value.
func TestBatchTotalOfOneValueAgainAndAgain(t *testing.T) {
	forEncodings(func(kind, val int, v []int) {
		b := newBatch(t, kind, 1)
		sums := make([]int, len(v))
		for i, id := range manyIds(9) {
			p, q := report(t, id, kind, val, 111*i)
			b = batchTakes(t, b, p, q, 9, 7)
			sums = sumOf(sums, v)
			tells(t, b, sums, i+1, (i+1)*val)
		}
	})
}

// batching is a function of chapter 23 with a batch and two shares, and all
// slices of its result.
type batching struct {
	name string
	call func(b impl.Batch, p, q impl.Part) [][]int
}

func slicesOf(b impl.Batch) [][]int {
	return [][]int{b.One.Sum, b.One.Ids, b.Two.Sum, b.Two.Ids}
}

func batchings() []batching {
	return []batching{
		{"BatchNew", func(b impl.Batch, p, q impl.Part) [][]int {
			made, _ := impl.BatchNew(b.One.Kind, b.Need)
			return slicesOf(made)
		}},
		{"BatchOk", func(b impl.Batch, p, q impl.Part) [][]int {
			impl.BatchOk(b)
			return nil
		}},
		{"BatchTake", func(b impl.Batch, p, q impl.Part) [][]int {
			got, _ := impl.BatchTake(b, p, q, 9, 7)
			return slicesOf(got)
		}},
		{"BatchTake with no query", func(b impl.Batch, p, q impl.Part) [][]int {
			got, _ := impl.BatchTake(b, p, q, 0, -1)
			return slicesOf(got)
		}},
		{"BatchTell", func(b impl.Batch, p, q impl.Part) [][]int {
			told, _, _ := impl.BatchTell(b)
			return [][]int{told}
		}},
		{"BatchTotal", func(b impl.Batch, p, q impl.Part) [][]int {
			impl.BatchTotal(b)
			return nil
		}},
	}
}

// forBatchings has each function with batches and reports of which some are
// invalid; of the others the batch takes only some.
func forBatchings(check func(f batching, b impl.Batch, p, q impl.Part)) {
	for _, f := range batchings() {
		forBatches(func(b impl.Batch) {
			p, q := reportOf(64, b.One.Kind, 1, 17)
			check(f, b, p, q)
			check(f, b, q, p)
			check(f, b, withList(p, replaced(p.List, 0, (p.List[0]+1)%31)), q)
			p, q = reportOf(42, b.One.Kind, 1, 17)
			check(f, b, p, q)
			p, q = reportOf(64, 1+b.One.Kind%3, 1, 17)
			check(f, b, p, q)
		})
		for kind := range lengths() {
			b := batchWith(kind, 2, []int{42, 7})
			p, q := reportOf(64, kind, 1, 17)
			for i, bad := range spoiledBatches(b) {
				if i%3 == 0 {
					check(f, bad, p, q)
				}
			}
			for i, bad := range spoiled(q) {
				if i%3 == 0 {
					check(f, b, p, bad)
				}
			}
		}
	}
}

// spreadBatch has the same batch, each slice of which has capacity left.
func spreadBatch(b impl.Batch) impl.Batch {
	for _, c := range []*impl.Col{&b.One, &b.Two} {
		c.Sum, c.Ids = withSpare(c.Sum), withSpare(c.Ids)
	}
	return b
}

// General rules: an argument keeps its elements and those beyond its length,
// and no result has memory of an argument.
func TestBatchFunctionsChangeNoArgument(t *testing.T) {
	forBatchings(func(f batching, b impl.Batch, p, q impl.Part) {
		given, one, two := spreadBatch(b), withList(p, withSpare(p.List)), withList(q, withSpare(q.List))
		args := append(slicesOf(given), one.List, two.List)
		if fault := faultWith(args, func() [][]int { return f.call(given, one, two) }); fault != "" {
			t.Fatalf("%s of %v, %v and %v %s", f.name, b, p, q, fault)
		}
	})
}

// General rules: also beyond their lengths, between both collectors, and if the
// call fails.
func TestBatchesShareNoMemory(t *testing.T) {
	forBatchings(func(f batching, b impl.Batch, p, q impl.Part) {
		given, one, two := spreadBatch(b), withList(p, withSpare(p.List)), withList(q, withSpare(q.List))
		if shareMemory(slices.Concat(f.call(given, one, two), f.call(given, one, two))) {
			t.Fatalf("results of %s of %v, %v and %v share memory", f.name, b, p, q)
		}
	})
}

// General rules: the sums and the Ids of a result can all be extended.
func TestSlicesOfBatchesCanBeExtended(t *testing.T) {
	forBatchings(func(f batching, b impl.Batch, p, q impl.Part) {
		if results := f.call(b, p, q); !extendable(results) {
			t.Fatalf("the results of %s of %v, %v and %v become %v", f.name, b, p, q, results)
		}
	})
}

// General rules: one batch may take two reports, one apart from the other.
func TestBatchesOfOneBatchAreApart(t *testing.T) {
	for kind := range lengths() {
		b := newBatch(t, kind, 1)
		for more := 10; more <= 18; more++ {
			p, q := reportOf(more, kind, 1, 17)
			otherP, otherQ := reportOf(more+10, kind, 0, 500)
			first := batchTakes(t, b, p, q, 9, 7)
			kept := copyOfBatch(first)
			second := batchTakes(t, b, otherP, otherQ, 9, 7)
			for _, l := range slicesOf(b) {
				_ = append(l, 77, 77)
			}
			if !sameBatch(first, kept) || !slices.Equal(second.Two.Ids, slices.Concat(b.One.Ids, []int{more + 10})) {
				t.Fatalf("of %v, the batches become %v and %v", b, first, second)
			}
			b = first
		}
	}
}

// General rules: both collectors, and both shares, may have the same slices.
func TestBatchFunctionsOfOneSlice(t *testing.T) {
	for kind, many := range lengths() {
		l := elements()[1 : 1+listLengths()[kind]]
		for _, all := range [][]int{slices.Clone(l), withSpare(l)} {
			b := impl.Batch{
				One: impl.Col{Side: 1, Kind: kind, Sum: all[:many], Ids: all[:many]},
				Two: impl.Col{Side: 2, Kind: kind, Sum: all[:many], Ids: all[:many]}, Need: 1,
			}
			p := impl.Part{Id: 42, Kind: kind, Side: 1, List: all}
			q := impl.Part{Id: 42, Kind: kind, Side: 2, List: all}
			batchIs(t, b, true)
			tellingIsRight(t, b)
			forQueries(kind, func(at, w int) {
				got, _ := batchTakingIsRight(t, b, p, q, at, w)
				if shareMemory(slicesOf(got)) || !slices.Equal(all, l) {
					t.Fatalf("BatchTake of parts of %v is %v", all, got)
				}
			})
			good, goodQ := reportOf(42, kind, 1, 17)
			if shareMemory(slicesOf(batchTakes(t, b, good, goodQ, 9, 7))) || !slices.Equal(all, l) {
				t.Fatalf("%v becomes %v", l, all)
			}
			told, _, _ := impl.BatchTell(b)
			overwrite(told)
			if !slices.Equal(all, l) {
				t.Fatalf("%v becomes %v", l, all)
			}
		}
	}
}

// General rules: no batch or share is kept to tell it by.
func TestBatchFunctionsReadTheirArgumentsAnew(t *testing.T) {
	b := batchWith(3, 1, []int{5, 6})
	p := impl.Part{Id: 7, Kind: 3, Side: 1, List: make([]int, 12)}
	q := impl.Part{Id: 7, Kind: 3, Side: 2, List: make([]int, 12)}
	for range 2 {
		for val := range 8 {
			one, two := reportOf(7, 3, val, 77)
			copy(p.List, one.List)
			copy(q.List, two.List)
			batchTakes(t, b, p, q, 9, 7)
			tellingIsRight(t, b)
			b.One.Ids[1] = 7
			isNoBatch(t, b, p, q)
			b.Two.Ids[1] = 7
			batchKeeps(t, b, p, q, 9, 7)
			b.One.Ids[1], b.Two.Ids[1] = 6, 6
			b.Two.Sum[2] = 31
			isNoBatch(t, b, p, q)
			b.Two.Sum[2] = val
			tellingIsRight(t, b)
			q.List[11] = (q.List[11] + 1) % 31
			batchKeeps(t, b, p, q, 9, 7)
			q.List[11] = -1
			batchGivesNothing(t, b, p, q, 9, 7)
		}
	}
}

// General rules: a goroutine that is still at work after the call would use the
// slices that are overwritten here.
func TestBatchFunctionsAreDoneWhenTheyReturn(t *testing.T) {
	for range 20 {
		forEncodings(func(kind, val int, _ []int) {
			for _, at := range []int{9, 0} {
				b := batchWith(kind, 1, manyIds(5))
				p, q := reportOf(64, kind, val, 17)
				want, may := batchAfter(copyOfBatch(b), p, q, at, 7)
				wantTold, _, _ := toldOf(b)
				told, _, _ := impl.BatchTell(b)
				got, ok := impl.BatchTake(b, p, q, at, 7)
				for _, l := range append(slicesOf(b), p.List, q.List) {
					overwrite(l)
				}
				if ok != may || !sameBatch(got, want) || !slices.Equal(told, wantTold) {
					t.Fatalf("BatchTake is %v, %t, not %v, and BatchTell is %v, not %v", got, ok, want, told, wantTold)
				}
				batchIs(t, got, true)
			}
		})
	}
}

// General rules: calls at the same time keep no state, and none waits for
// another one.
func TestBatchFunctionsAtTheSameTime(t *testing.T) {
	var callers sync.WaitGroup
	for range 8 {
		callers.Go(func() {
			forColRuns(func(kind int, reports [][3]int) {
				b, made := impl.BatchNew(kind, 9)
				total := 0
				for i, r := range reports {
					p, q := reportOf(r[0], kind, r[1], r[2])
					want, _ := batchAfter(b, p, q, 9, i)
					got, ok := impl.BatchTake(b, p, q, 9, i)
					if !made || !ok || !sameBatch(got, want) || !impl.BatchOk(got) {
						t.Errorf("BatchTake(%v, %v, %v, 9, %d) is %v, %t", b, p, q, i, got, ok)
					}
					b, total = got, total+r[1]
				}
				if got, ok := impl.BatchTotal(b); !ok || got != total {
					t.Errorf("BatchTotal(%v) is %d, %t, not %d", b, got, ok, total)
				}
			})
		})
	}
	callers.Wait()
}

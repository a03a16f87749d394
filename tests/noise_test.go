package tests

import (
	"maps"
	"math"
	"slices"
	"sync"
	"testing"

	"loop.example/scrutineer/impl"
)

// noiseOf is what NoiseOf is to return, as the document describes it.
func noiseOf(n int) int {
	switch {
	case 11 <= n && n <= 17:
		return 1
	case 18 <= n && n <= 24:
		return -1
	case 25 <= n && n <= 27:
		return 2
	case 28 <= n && n <= 30:
		return -2
	}
	return 0
}

// frequencies has of how many field elements each noise is.
func frequencies() map[int]int {
	return map[int]int{-2: 3, -1: 7, 0: 11, 1: 7, 2: 3}
}

// noiseBy is what NoiseBoth is to return of valid arguments.
func noiseBy(a, b, at int) int {
	return noiseOf((drawOf(a, at) + drawOf(b, at)) % 31)
}

// countsWith is what NoiseAdd is to return of valid arguments.
func countsWith(counts []int, a, b int) []int {
	var out []int
	for at, n := range counts {
		out = append(out, n+noiseBy(a, b, at))
	}
	return out
}

// rightCounts says whether NoiseAdd is to take counts, with valid seeds.
func rightCounts(counts []int) bool {
	return len(counts) <= 20 && !slices.ContainsFunc(counts, func(n int) bool { return n < 0 || n > 9999 })
}

// farNumbers has numbers far from 0, of which some are noise in a smaller
// integer type or modulo a small number.
func farNumbers() []int {
	far := []int{
		math.MinInt, math.MinInt + 1, math.MinInt + 2, math.MaxInt - 2, math.MaxInt - 1, math.MaxInt,
		math.MinInt32, math.MaxInt32, math.MaxUint32, math.MaxUint32 - 1,
	}
	for _, n := range []int{5, 31, 62, 1000, 10000, 1 << 8, 1 << 16, 1 << 32, 1 << 62} {
		for v := -2; v <= 2; v++ {
			far = append(far, n+v, v-n)
		}
	}
	return far
}

// noCounts has numbers just out of range, and others that are none.
func noCounts() []int {
	return append(outside(9999), 1<<16, 1<<16+5, 1<<32+9999, math.MinInt+5, math.MinInt+9999)
}

// noSeeds has fewer than outside, for tests that have other loops.
func noSeeds() []int {
	return []int{
		-1, -2, -31, -999, -1000, 1000, 1001, 1030, 1 << 16, 1<<32 + 5, 1 << 32,
		math.MinInt, math.MinInt + 5, math.MinInt32, math.MaxInt32, math.MaxInt - 5, math.MaxInt,
	}
}

// counts has drawn ones, which are anywhere in the range.
func (d *draw) counts(many int) []int {
	l := make([]int, many)
	for i := range l {
		l[i] = (d.element()*961 + d.element()*31 + d.element()) % 10000
	}
	return l
}

// countsOf has counts of one length: the least, the greatest, those next to
// them, others that are all different, and drawn ones.
func countsOf(many int) [][]int {
	d := draw(112)
	rising, ends := make([]int, many), make([]int, many)
	for i := range many {
		rising[i] = 100 * i
		ends[i] = i % 2 * 9999
	}
	lists := [][]int{make([]int, many), rising, ends}
	for _, n := range []int{1, 2, 3, 5000, 9996, 9997, 9998, 9999} {
		lists = append(lists, slices.Repeat([]int{n}, many))
	}
	for range 4 {
		lists = append(lists, d.counts(many))
	}
	return lists
}

// forCounts has counts of each length, each of some seeds with each other.
func forCounts(check func(counts []int, a, b int)) {
	for many := range impl.ShareMax + 1 {
		for _, counts := range countsOf(many) {
			for _, a := range someSeeds() {
				for _, b := range someSeeds() {
					check(counts, a, b)
				}
			}
		}
	}
}

func noisy(t *testing.T, counts []int, a, b int) []int {
	t.Helper()
	got, ok := impl.NoiseAdd(counts, a, b)
	if !ok || len(got) != len(counts) {
		t.Fatalf("NoiseAdd(%v, %d, %d) is %v, %t", counts, a, b, got, ok)
	}
	return got
}

// noisyIs checks a call that succeeds.
func noisyIs(t *testing.T, counts []int, a, b int, want []int) {
	t.Helper()
	if got, ok := impl.NoiseAdd(counts, a, b); !ok || !slices.Equal(got, want) {
		t.Errorf("NoiseAdd(%v, %d, %d) is %v, %t, not %v", counts, a, b, got, ok, want)
	}
}

func noisyFails(t *testing.T, counts []int, a, b int) {
	t.Helper()
	if got, ok := impl.NoiseAdd(counts, a, b); ok || len(got) != 0 {
		t.Errorf("NoiseAdd of %d counts with %d and %d is %v, %t", len(counts), a, b, got, ok)
	}
}

// noisyIsRight checks a call with any arguments.
func noisyIsRight(t *testing.T, counts []int, a, b int) {
	t.Helper()
	seeds := 0 <= a && a <= 999 && 0 <= b && b <= 999
	if seeds && rightCounts(counts) {
		noisyIs(t, counts, a, b, countsWith(counts, a, b))
	} else {
		noisyFails(t, counts, a, b)
	}
}

// Chapter 33
func TestNoiseMaxIsThatOfTheDocument(t *testing.T) {
	if impl.NoiseMax != 2 {
		t.Errorf("NoiseMax is %d", impl.NoiseMax)
	}
}

// P113: the noise of every field element, in order.
func TestNoiseOfEachFieldElement(t *testing.T) {
	all := []int{
		0, 0, 0, 0, 0, 0, 0, 0, 0, 0, 0,
		1, 1, 1, 1, 1, 1, 1,
		-1, -1, -1, -1, -1, -1, -1,
		2, 2, 2,
		-2, -2, -2,
	}
	if len(all) != impl.FieldSize {
		t.Fatalf("there are %d numbers", len(all))
	}
	for n, want := range all {
		if got := impl.NoiseOf(n); got != want || got != noiseOf(n) {
			t.Errorf("NoiseOf(%d) is %d, not %d", n, got, want)
		}
	}
}

// P113: both ends of each of the five ranges.
func TestNoiseOfAtTheEndsOfEachRange(t *testing.T) {
	for _, c := range [][3]int{{0, 10, 0}, {11, 17, 1}, {18, 24, -1}, {25, 27, 2}, {28, 30, -2}} {
		if first, end := impl.NoiseOf(c[0]), impl.NoiseOf(c[1]); first != c[2] || end != c[2] {
			t.Errorf("NoiseOf(%d) is %d and NoiseOf(%d) is %d, not %d", c[0], first, c[1], end, c[2])
		}
	}
}

// Chapter 33
func TestNoiseOfOtherNumbersIsZero(t *testing.T) {
	for _, n := range slices.Concat(notElements(), outside(last)) {
		if got := impl.NoiseOf(n); got != 0 {
			t.Errorf("NoiseOf(%d) is %d", n, got)
		}
	}
	// Some are field elements in a smaller integer type or modulo a number.
	for n := range impl.FieldSize {
		for _, away := range []int{31, 62, 100, 1000, 1 << 7, 1 << 8, 1 << 15, 1 << 16, 1 << 31, 1 << 32, 1 << 33, 1 << 62, math.MaxInt - 30} {
			for _, other := range []int{n + away, n - away, math.MinInt + n} {
				if got := impl.NoiseOf(other); got != 0 {
					t.Errorf("NoiseOf(%d) is %d", other, got)
				}
			}
		}
	}
}

// P113
func TestNoiseIsAtMostNoiseMax(t *testing.T) {
	for n := -1000; n <= 1000; n++ {
		if got := impl.NoiseOf(n); got < -2 || got > 2 {
			t.Errorf("NoiseOf(%d) is %d", n, got)
		}
	}
	for _, n := range append(farNumbers(), notElements()...) {
		if got := impl.NoiseOf(n); got < -2 || got > 2 {
			t.Errorf("NoiseOf(%d) is %d", n, got)
		}
	}
}

// P113: larger absolute values are less frequent, on either side.
func TestLargerNoiseIsLessFrequent(t *testing.T) {
	times := map[int]int{}
	for n := range impl.FieldSize {
		times[impl.NoiseOf(n)]++
	}
	if len(times) != 5 {
		t.Errorf("there are %v", times)
	}
	for v := range impl.NoiseMax {
		if times[v+1] >= times[v] || times[-v-1] >= times[-v] || times[v+1] == 0 || times[-v-1] == 0 {
			t.Errorf("noise is %d times %d and %d times %d, and %d times %d and %d times %d", times[v], v, times[v+1], v+1, times[-v], -v, times[-v-1], -v-1)
		}
		if impl.NoiseMany(v+1) >= impl.NoiseMany(v) || impl.NoiseMany(-v-1) >= impl.NoiseMany(-v) {
			t.Errorf("NoiseMany does not fall from %d to %d", v, v+1)
		}
	}
}

// P116
func TestNoiseOfAllFieldElementsAddsUpToZero(t *testing.T) {
	total := 0
	for n := range impl.FieldSize {
		total += impl.NoiseOf(n)
	}
	if total != 0 {
		t.Errorf("noise adds up to %d", total)
	}
	weighted := 0
	for v := -impl.NoiseMax; v <= impl.NoiseMax; v++ {
		weighted += v * impl.NoiseMany(v)
	}
	if weighted != 0 {
		t.Errorf("noise times NoiseMany adds up to %d", weighted)
	}
}

// P112, P113: of all noise values, counted by hand.
func TestNoiseManyOfEachNoise(t *testing.T) {
	for v, want := range frequencies() {
		if got := impl.NoiseMany(v); got != want {
			t.Errorf("NoiseMany(%d) is %d, not %d", v, got, want)
		}
	}
}

// P112
func TestNoiseManyCountsFieldElements(t *testing.T) {
	for v := -1000; v <= 1000; v++ {
		many := 0
		for n := range impl.FieldSize {
			if impl.NoiseOf(n) == v {
				many++
			}
		}
		if got := impl.NoiseMany(v); got != many {
			t.Errorf("NoiseMany(%d) is %d, not %d", v, got, many)
		}
	}
}

// P112
func TestNoiseManyIsSymmetric(t *testing.T) {
	for v := range 1000 {
		if left, right := impl.NoiseMany(-v), impl.NoiseMany(v); left != right {
			t.Errorf("NoiseMany(%d) is %d, but NoiseMany(%d) is %d", -v, left, v, right)
		}
	}
	for _, v := range farNumbers() {
		if left, right := impl.NoiseMany(-v), impl.NoiseMany(v); left != right {
			t.Errorf("NoiseMany(%d) is %d, but NoiseMany(%d) is %d", -v, left, v, right)
		}
	}
}

// P112: within NoiseMax, and also within any greater range.
func TestNoiseManyAddsUpToFieldSize(t *testing.T) {
	for _, most := range []int{2, 3, 31, 1000} {
		total := 0
		for v := -most; v <= most; v++ {
			total += impl.NoiseMany(v)
		}
		if total != 31 {
			t.Errorf("NoiseMany of the numbers from %d to %d adds up to %d", -most, most, total)
		}
	}
}

// P112: of numbers that are the noise of no field element.
func TestNoiseManyOfWhatIsNoNoise(t *testing.T) {
	for v := 3; v <= 1000; v++ {
		for _, n := range []int{v, -v} {
			if got := impl.NoiseMany(n); got != 0 {
				t.Errorf("NoiseMany(%d) is %d", n, got)
			}
		}
	}
	for _, v := range farNumbers() {
		if got := impl.NoiseMany(v); got != 0 {
			t.Errorf("NoiseMany(%d) is %d", v, got)
		}
	}
	for _, v := range outside(0) {
		if got := impl.NoiseMany(v); got != frequencies()[v] {
			t.Errorf("NoiseMany(%d) is %d", v, got)
		}
	}
}

// P114: calculated without this program, at the indexes 0 to ShareMax.
func TestNoiseBothOfExamples(t *testing.T) {
	for _, c := range []struct {
		a, b int
		want []int
	}{
		{0, 0, []int{0, -2, 0, -2, 0, -1, -1, 0, -2, 0, -2, 0, 1, 1, 2, -1, -1, 1, 1, 2, -1}},
		{5, 17, []int{-1, 0, 2, 0, -1, -1, 0, 0, 0, 0, 0, -1, -1, 0, 2, 0, -1, -1, 0, 0, 1}},
		{30, 1, []int{0, -2, 0, -2, 0, -1, -1, 0, -2, 0, -2, 0, 1, 1, 2, -1, -1, 1, 1, 2, -1}},
		{30, 30, []int{-2, 0, 2, 2, 1, 0, -1, 0, 1, 0, 0, 1, 0, -1, 0, 1, 2, 2, 0, -2, 0}},
		{999, 999, []int{-2, 1, -1, 0, 0, 0, 0, 0, 2, 2, 0, 0, 0, 0, 0, -1, 1, -2, -1, 2, 1}},
		{0, 999, []int{1, 0, 1, 0, 0, 1, 1, -1, 1, 1, 0, 0, 1, 0, 1, 0, 0, -1, 1, 2, -1}},
		{998, 999, []int{2, -1, -2, 1, -1, 0, 0, 0, 0, 0, 2, 2, 0, 0, 0, 0, 0, -1, 1, -2, -1}},
		{961, 0, []int{0, -2, 0, -2, 0, -1, -1, 0, -2, 0, -2, 0, 1, 1, 2, -1, -1, 1, 1, 2, -1}},
		{500, 31, []int{-2, 0, -2, 0, 1, 1, 2, -1, -1, 1, 1, 2, -1, 0, -1, 2, 1, 1, -1, -1, 2}},
	} {
		for at, want := range c.want {
			if got := impl.NoiseBoth(c.a, c.b, at); got != want {
				t.Errorf("NoiseBoth(%d, %d, %d) is %d, not %d", c.a, c.b, at, got, want)
			}
			if got := impl.NoiseBoth(c.b, c.a, at); got != want {
				t.Errorf("NoiseBoth(%d, %d, %d) is %d, not %d", c.b, c.a, at, got, want)
			}
		}
	}
}

// P114: some seeds with each of the first other ones, calculated without this
// program.
func TestNoiseBothWithTheFirstSeeds(t *testing.T) {
	for _, c := range []struct {
		seed, at int
		want     []int
	}{
		{0, 0, []int{0, 0, 0, 0, 0, 0, 0, 0, 0, 0, 0, 1, 1, 1, 1, 1, 1, 1, -1, -1, -1, -1, -1, -1, -1, 2, 2, 2, -2, -2, -2}},
		{5, 0, []int{0, 0, 0, 0, 0, 0, 1, 1, 1, 1, 1, 1, 1, -1, -1, -1, -1, -1, -1, -1, 2, 2, 2, -2, -2, -2, 0, 0, 0, 0, 0}},
		{17, 1, []int{-1, -1, 1, 0, 0, 0, -2, 2, -1, 1, 1, 0, 0, 0, -2, -1, -1, 1, 1, 0, 0, 0, 2, -1, -1, 1, 1, 0, 0, -2, 2}},
		{30, 19, []int{-2, 2, 2, 2, -1, -1, -1, -1, -1, -1, -1, 1, 1, 1, 1, 1, 1, 1, 0, 0, 0, 0, 0, 0, 0, 0, 0, 0, 0, -2, -2}},
		{500, 10, []int{0, -1, 0, 1, 2, 0, -1, 0, 1, -2, 1, 2, 0, -1, 0, 1, -2, 0, -1, 0, -1, 0, 1, 2, 0, -1, 0, 1, -2, 1, -1}},
		{999, 0, []int{1, 1, 1, 1, -1, -1, -1, -1, -1, -1, -1, 2, 2, 2, -2, -2, -2, 0, 0, 0, 0, 0, 0, 0, 0, 0, 0, 0, 1, 1, 1}},
		{999, 20, []int{-1, 1, 0, 0, 2, -1, 1, 0, 0, 2, -1, 1, 0, 0, -2, -1, 1, 0, 0, -2, -1, 1, 1, 0, -2, -1, -1, 1, 0, 0, 2}},
		{0, 20, []int{-1, 1, 1, 0, -2, -1, -1, 1, 0, 0, 2, -1, 1, 0, 0, 2, -1, 1, 0, 0, 2, -1, 1, 0, 0, -2, -1, 1, 0, 0, -2}},
	} {
		if len(c.want) != impl.FieldSize {
			t.Fatalf("there are %d numbers", len(c.want))
		}
		for other, want := range c.want {
			if left, right := impl.NoiseBoth(c.seed, other, c.at), impl.NoiseBoth(other, c.seed, c.at); left != want || right != want {
				t.Errorf("at %d, the noise of %d and %d is %d and %d, not %d", c.at, c.seed, other, left, right, want)
			}
		}
	}
}

// P114: all pairs of seeds at every index.
func TestNoiseBothIsNoiseOfRandBoth(t *testing.T) {
	for at := range impl.ShareMax + 1 {
		var drawn [impl.SeedMax + 1]int
		for seed := range drawn {
			drawn[seed] = drawOf(seed, at)
		}
		for a := range drawn {
			for b := range drawn {
				if got, want := impl.NoiseBoth(a, b, at), noiseOf((drawn[a]+drawn[b])%31); got != want {
					t.Errorf("NoiseBoth(%d, %d, %d) is %d, not %d", a, b, at, got, want)
				}
			}
		}
	}
	forDraws(func(a, at int) {
		for _, b := range someSeeds() {
			if got, want := impl.NoiseBoth(a, b, at), impl.NoiseOf(impl.RandBoth(a, b, at)); got != want || got != noiseBy(a, b, at) {
				t.Errorf("NoiseBoth(%d, %d, %d) is %d, not %d", a, b, at, got, want)
			}
		}
	})
}

// P114: whatever one seed is, and whichever it is of both.
func TestEachNoiseIsThatOfItsNoiseManyOtherSeeds(t *testing.T) {
	forDraws(func(seed, at int) {
		second, first := map[int]int{}, map[int]int{}
		for other := range impl.FieldSize {
			second[impl.NoiseBoth(seed, other, at)]++
			first[impl.NoiseBoth(other, seed, at)]++
		}
		for v, many := range frequencies() {
			if second[v] != many || first[v] != many || impl.NoiseMany(v) != many {
				t.Errorf("the noise with %d at %d is %d for %d second and %d first seeds, not %d", seed, at, v, second[v], first[v], many)
			}
		}
	})
}

// P114, P116: so that noise adds up to 0, whatever one seed is.
func TestNoiseWithTheFirstSeedsAddsUpToZero(t *testing.T) {
	forDraws(func(seed, at int) {
		total := 0
		for other := range impl.FieldSize {
			total += impl.NoiseBoth(seed, other, at)
		}
		if total != 0 {
			t.Errorf("the noise with %d at %d adds up to %d", seed, at, total)
		}
	})
}

func noiseIsZero(t *testing.T, a, b, at int) {
	t.Helper()
	if got := impl.NoiseBoth(a, b, at); got != 0 {
		t.Errorf("NoiseBoth(%d, %d, %d) is %d", a, b, at, got)
	}
}

// P114: on either side, and on both.
func TestNoiseBothOfInvalidSeeds(t *testing.T) {
	for _, bad := range slices.Concat(outside(impl.SeedMax), noSeeds()) {
		for at := range impl.ShareMax + 1 {
			for _, seed := range someSeeds() {
				noiseIsZero(t, bad, seed, at)
				noiseIsZero(t, seed, bad, at)
			}
			for _, other := range slices.Concat(outside(impl.SeedMax), noSeeds()) {
				noiseIsZero(t, bad, other, at)
			}
		}
	}
}

// P114: just outside the range, with each valid seed.
func TestNoiseBothOfSeedsNextToTheEnds(t *testing.T) {
	forDraws(func(seed, at int) {
		for _, bad := range []int{-1, impl.SeedMax + 1} {
			noiseIsZero(t, bad, seed, at)
			noiseIsZero(t, seed, bad, at)
		}
	})
}

// P114: with valid seeds, with an invalid one on either side, and with two.
func TestNoiseBothOfInvalidIndexes(t *testing.T) {
	for _, at := range outside(impl.ShareMax) {
		for _, a := range someSeeds() {
			for _, b := range someSeeds() {
				noiseIsZero(t, a, b, at)
			}
			for _, bad := range noSeeds() {
				noiseIsZero(t, a, bad, at)
				noiseIsZero(t, bad, a, at)
			}
		}
		for _, bad := range noSeeds() {
			for _, other := range noSeeds() {
				noiseIsZero(t, bad, other, at)
			}
		}
	}
	for seed := range impl.SeedMax + 1 {
		for _, at := range []int{-1, impl.ShareMax + 1} {
			noiseIsZero(t, seed, 0, at)
			noiseIsZero(t, 5, seed, at)
		}
	}
}

// P115: calculated without this program.
func TestNoiseAddOfExamples(t *testing.T) {
	noisyIs(t, []int{4}, 5, 17, []int{3})
	noisyIs(t, []int{4, 4, 4}, 17, 5, []int{3, 4, 6})
	noisyIs(t, []int{0, 0, 0}, 5, 17, []int{-1, 0, 2})
	noisyIs(t, []int{0, 9999, 0, 9999}, 30, 30, []int{-2, 9999, 2, 10001})
	noisyIs(t, []int{9999, 0, 9999, 0}, 998, 999, []int{10001, -1, 9997, 1})
	noisyIs(t, []int{9999, 9999}, 0, 999, []int{10000, 9999})
	noisyIs(t, nil, 0, 999, nil)
	noisyIs(t, []int{}, 999, 0, nil)
	noisyIs(t, []int{1, 2, 3, 4, 5, 6, 7, 8, 9, 10, 11, 12, 13, 14, 15, 16, 17, 18, 19, 20}, 500, 31,
		[]int{-1, 2, 1, 4, 6, 7, 9, 7, 8, 11, 12, 14, 12, 14, 14, 18, 18, 19, 18, 19})
	noisyIs(t, slices.Repeat([]int{0}, 20), 999, 999,
		[]int{-2, 1, -1, 0, 0, 0, 0, 0, 2, 2, 0, 0, 0, 0, 0, -1, 1, -2, -1, 2})
	noisyIs(t, slices.Repeat([]int{9999}, 20), 0, 0,
		[]int{9999, 9997, 9999, 9997, 9999, 9998, 9998, 9999, 9997, 9999, 9997, 9999, 10000, 10000, 10001, 9998, 9998, 10000, 10000, 10001})
}

// P115
func TestNoiseAddAddsTheNoiseOfEachIndex(t *testing.T) {
	forCounts(func(counts []int, a, b int) {
		got := noisy(t, counts, a, b)
		for at, n := range counts {
			if got[at] != n+noiseBy(a, b, at) || got[at] != n+impl.NoiseBoth(a, b, at) {
				t.Fatalf("NoiseAdd(%v, %d, %d) is %v", counts, a, b, got)
			}
		}
	})
}

// P115: with each seed on either side, and with itself.
func TestNoiseAddOfEverySeed(t *testing.T) {
	d := draw(115)
	for seed := range impl.SeedMax + 1 {
		counts := d.counts(impl.ShareMax)
		for _, other := range append(someSeeds(), seed) {
			noisyIs(t, counts, seed, other, countsWith(counts, seed, other))
			noisyIs(t, counts, other, seed, countsWith(counts, seed, other))
		}
	}
}

// P115: every count, one at each place.
func TestNoiseAddOfEveryCount(t *testing.T) {
	for n := range 10000 {
		at := n % impl.ShareMax
		counts := make([]int, impl.ShareMax)
		counts[at] = n
		a, b := n%1000, (n*7+500)%1000
		noisyIs(t, counts, a, b, countsWith(counts, a, b))
		noisyIs(t, []int{n}, a, b, countsWith([]int{n}, a, b))
	}
}

// P115
func TestNoCountChangesByMoreThanNoiseMax(t *testing.T) {
	forCounts(func(counts []int, a, b int) {
		got := noisy(t, counts, a, b)
		for at, n := range got {
			if change := n - counts[at]; change < -2 || change > 2 {
				t.Fatalf("NoiseAdd(%v, %d, %d) is %v", counts, a, b, got)
			}
		}
	})
}

// P115: each change up to NoiseMax does occur, at every index.
func TestNoiseAddMakesEachChange(t *testing.T) {
	var changes [impl.ShareMax]map[int]int
	for seed := range impl.FieldSize {
		for at, n := range noisy(t, slices.Repeat([]int{50}, impl.ShareMax), 17, seed) {
			if changes[at] == nil {
				changes[at] = map[int]int{}
			}
			changes[at][n-50]++
		}
	}
	for at, times := range changes {
		if !maps.Equal(times, frequencies()) {
			t.Errorf("at %d, the changes occur %v times", at, times)
		}
	}
}

// P115: what is added at an index does not depend on the counts beside it.
func TestNoiseAddOfFewerCountsIsAPrefix(t *testing.T) {
	for _, counts := range countsOf(impl.ShareMax) {
		for _, a := range someSeeds() {
			for _, b := range someSeeds() {
				longest := noisy(t, counts, a, b)
				for many := range impl.ShareMax + 1 {
					if got := noisy(t, counts[:many], a, b); !slices.Equal(got, longest[:many]) {
						t.Errorf("NoiseAdd(%v, %d, %d) is %v, but of more counts %v", counts[:many], a, b, got, longest)
					}
				}
			}
		}
	}
}

// P115: of none, of one, and of ShareMax and ShareMax+1.
func TestNoiseAddOfNumbersOfCountsAroundTheEnds(t *testing.T) {
	for _, n := range []int{0, 1, 9999} {
		for many := range 100 {
			counts := slices.Repeat([]int{n}, many)
			for _, a := range someSeeds() {
				if many <= 20 {
					noisyIs(t, counts, a, 17, countsWith(counts, a, 17))
				} else {
					noisyFails(t, counts, a, 17)
				}
			}
		}
	}
}

// Chapter 33: numbers of counts that are small in a smaller integer type, too.
func TestNoiseAddOfVeryManyCounts(t *testing.T) {
	for _, many := range []int{255, 256, 257, 276, 65535, 65536, 65537, 65556, 1 << 20, 1<<20 + 20} {
		for _, n := range []int{0, 1, 9999, -1, 10000} {
			counts := slices.Repeat([]int{n}, many)
			noisyFails(t, counts, 5, 17)
			noisyFails(t, counts, -1, 1000)
		}
	}
}

// P115: of counts that are 0 and 9999, results are beyond the range of counts.
func TestNoisyCountsBeyondTheRangeOfCounts(t *testing.T) {
	least, greatest := 0, 0
	for a := range impl.SeedMax + 1 {
		for _, b := range someSeeds() {
			low := noisy(t, make([]int, impl.ShareMax), a, b)
			high := noisy(t, slices.Repeat([]int{9999}, impl.ShareMax), a, b)
			for at := range low {
				want := noiseBy(a, b, at)
				if low[at] != want || high[at] != 9999+want {
					t.Fatalf("0 and 9999 become %d and %d at %d, with %d and %d", low[at], high[at], at, a, b)
				}
			}
			least, greatest = min(least, slices.Min(low)), max(greatest, slices.Max(high))
		}
	}
	if least != -2 || greatest != 10001 {
		t.Errorf("the results are from %d to %d", least, greatest)
	}
}

// Chapter 33: a result that is beyond the range is not taken as counts.
func TestNoiseAddOfNoisyCounts(t *testing.T) {
	taken, refused := 0, 0
	forCounts(func(counts []int, a, b int) {
		got := noisy(t, counts, a, b)
		noisyIsRight(t, got, a, b)
		if rightCounts(got) {
			taken++
		} else {
			refused++
		}
	})
	if taken < 1000 || refused < 1000 {
		t.Errorf("%d results are counts, and %d are not", taken, refused)
	}
}

// P117
func TestNoiseAddIsSymmetricInTheSeeds(t *testing.T) {
	forCounts(func(counts []int, a, b int) {
		if left, right := noisy(t, counts, a, b), noisy(t, counts, b, a); !slices.Equal(left, right) {
			t.Errorf("NoiseAdd(%v, %d, %d) is %v, but in the other order %v", counts, a, b, left, right)
		}
	})
	counts := countsOf(impl.ShareMax)[1]
	for a := range impl.SeedMax + 1 {
		for b := range a {
			if left, right := noisy(t, counts, a, b), noisy(t, counts, b, a); !slices.Equal(left, right) {
				t.Fatalf("NoiseAdd(%v, %d, %d) is %v, but in the other order %v", counts, a, b, left, right)
			}
		}
	}
}

// plus has a constant added to each number.
func plus(l []int, constant int) []int {
	var out []int
	for _, n := range l {
		out = append(out, n+constant)
	}
	return out
}

// P117: also up to the ends of the range, and not beyond them.
func TestAddingAConstantToTheCounts(t *testing.T) {
	for many := 1; many <= impl.ShareMax; many++ {
		for _, counts := range countsOf(many) {
			least, greatest := slices.Min(counts), slices.Max(counts)
			for _, a := range []int{0, 5, 999} {
				before := noisy(t, counts, a, 17)
				for _, c := range []int{-least, -1, 0, 1, 2, 31, 100, 4999, 9999 - greatest} {
					if least+c < 0 || greatest+c > 9999 {
						continue
					}
					if got := noisy(t, plus(counts, c), a, 17); !slices.Equal(got, plus(before, c)) {
						t.Errorf("NoiseAdd(%v, %d, 17) is %v, and with %d more %v", counts, a, before, c, got)
					}
				}
				noisyFails(t, plus(counts, -least-1), a, 17)
				noisyFails(t, plus(counts, 10000-greatest), a, 17)
			}
		}
	}
}

// P117: every constant for which counts stay within bounds.
func TestAddingEveryConstantToCounts(t *testing.T) {
	counts := []int{0, 5, 3, 100, 0, 100}
	before := noisy(t, counts, 5, 500)
	for c := range 9900 {
		if got := noisy(t, plus(counts, c), 5, 500); !slices.Equal(got, plus(before, c)) {
			t.Fatalf("NoiseAdd(%v, 5, 500) is %v, and with %d more %v", counts, before, c, got)
		}
	}
	noisyFails(t, plus(counts, 9900), 5, 500)
	noisyFails(t, plus(counts, -1), 5, 500)
}

// P115: on either side, and on both, with counts that could have noise.
func TestNoiseAddOfInvalidSeeds(t *testing.T) {
	for many := range impl.ShareMax + 1 {
		for _, n := range []int{0, 7, 9999} {
			counts := slices.Repeat([]int{n}, many)
			for _, bad := range slices.Concat(outside(impl.SeedMax), noSeeds()) {
				for _, seed := range []int{0, 5, 999} {
					noisyFails(t, counts, bad, seed)
					noisyFails(t, counts, seed, bad)
				}
				noisyFails(t, counts, bad, bad)
				for _, other := range noSeeds() {
					noisyFails(t, counts, bad, other)
				}
			}
		}
	}
}

// P115: just outside the range, with each valid seed.
func TestNoiseAddOfSeedsNextToTheEnds(t *testing.T) {
	for seed := range impl.SeedMax + 1 {
		for _, bad := range []int{-1, impl.SeedMax + 1} {
			for _, counts := range [][]int{nil, {4}, {4, 5, 6}} {
				noisyFails(t, counts, bad, seed)
				noisyFails(t, counts, seed, bad)
			}
		}
	}
}

// P115: an invalid count at the first, a middle, and the last place, and at all
// others.
func TestNoiseAddOfAnInvalidCountAtEachPlace(t *testing.T) {
	for _, bad := range noCounts() {
		for many := 1; many <= impl.ShareMax+1; many++ {
			for place := range many {
				for _, n := range []int{0, 9999} {
					counts := slices.Repeat([]int{n}, many)
					counts[place] = bad
					noisyFails(t, counts, 5, 17)
				}
			}
			noisyFails(t, slices.Repeat([]int{bad}, many), 5, 17)
		}
	}
}

// Chapter 33: counts just within the range and just out of it.
func TestNoiseAddOfCountsAroundTheEnds(t *testing.T) {
	for many := 1; many <= impl.ShareMax; many++ {
		for place := range many {
			for _, n := range []int{-3, -2, -1, 0, 1, 2, 9997, 9998, 9999, 10000, 10001, 10002} {
				counts := slices.Repeat([]int{50}, many)
				counts[place] = n
				for _, a := range []int{0, 5, 17, 31, 998, 999} {
					noisyIsRight(t, counts, a, 999)
				}
			}
		}
	}
}

// Chapter 33: two invalid counts, whose sum may be a count.
func TestNoiseAddOfTwoInvalidCounts(t *testing.T) {
	for _, bad := range noCounts() {
		for _, other := range []int{-1, 10000, -bad, 5 - bad, math.MinInt, math.MaxInt} {
			if 0 <= other && other <= 9999 {
				continue
			}
			noisyFails(t, []int{bad, other}, 5, 17)
			noisyFails(t, []int{bad, 3, 3, other}, 5, 17)
			noisyFails(t, []int{3, other, 3, bad, 3}, 5, 17)
		}
	}
}

// Chapter 33: invalid seeds, too many counts and invalid counts together.
func TestNoiseAddOfInvalidArgumentsTogether(t *testing.T) {
	for _, bad := range noSeeds() {
		for _, n := range []int{-1, 10000, math.MinInt, math.MaxInt} {
			for _, many := range []int{1, 3, 20, 21} {
				counts := slices.Repeat([]int{n}, many)
				noisyFails(t, counts, bad, 5)
				noisyFails(t, counts, 5, bad)
				noisyFails(t, counts, bad, bad)
				noisyFails(t, slices.Repeat([]int{5}, 21), bad, bad)
			}
		}
	}
}

// General rules: with valid and with invalid seeds.
func TestNoiseAddOfNilAndEmptyLists(t *testing.T) {
	seeds := slices.Concat(someSeeds(), noSeeds())
	for _, a := range seeds {
		for _, b := range seeds {
			for _, counts := range [][]int{nil, {}, make([]int, 0, 20), slices.Repeat([]int{-1}, 30)[:0]} {
				want := 0 <= a && a <= 999 && 0 <= b && b <= 999
				if got, ok := impl.NoiseAdd(counts, a, b); ok != want || len(got) != 0 {
					t.Errorf("NoiseAdd of no counts with %d and %d is %v, %t", a, b, got, ok)
				}
			}
		}
	}
}

// Chapter 33: what is behind the counts is not looked at.
func TestNoiseAddCountsOnlyTheLength(t *testing.T) {
	for many := range impl.ShareMax + 1 {
		for _, counts := range countsOf(many) {
			for _, behind := range []int{-1, 10000, math.MinInt, math.MaxInt, 5} {
				given := slices.Concat(counts, slices.Repeat([]int{behind}, 25))[:many]
				noisyIs(t, given, 5, 17, countsWith(counts, 5, 17))
			}
		}
	}
}

// forAnyCounts has counts and seeds of every sort, valid or not, each with
// capacity left behind the counts.
func forAnyCounts(check func(counts []int, a, b int)) {
	check(nil, 5, 17)
	check(nil, -1, 17)
	pairs := [][2]int{{5, 17}, {0, 0}, {999, 999}, {0, 999}, {-1, 5}, {5, 1000}, {math.MinInt, math.MaxInt}}
	for many := range impl.ShareMax + 2 {
		lists := countsOf(many)
		for _, bad := range []int{-1, 10000, math.MinInt, math.MaxInt} {
			for _, place := range []int{0, many / 2, many - 1} {
				if 0 <= place && place < many {
					counts := slices.Repeat([]int{7}, many)
					counts[place] = bad
					lists = append(lists, counts)
				}
			}
		}
		for _, counts := range lists {
			for _, seeds := range pairs {
				check(withSpare(counts), seeds[0], seeds[1])
				check(slices.Clip(slices.Clone(counts)), seeds[0], seeds[1])
			}
		}
	}
}

// General rules: counts keep their elements and those beyond their length, and
// no result has memory of them.
func TestNoiseAddChangesNoArgument(t *testing.T) {
	forAnyCounts(func(counts []int, a, b int) {
		before := slices.Clone(counts)
		fault := faultWith([][]int{counts}, func() [][]int {
			got, _ := impl.NoiseAdd(counts, a, b)
			return [][]int{got}
		})
		if fault != "" {
			t.Fatalf("NoiseAdd(%v, %d, %d) %s", before, a, b, fault)
		}
		noisyIsRight(t, counts, a, b)
	})
}

// General rules: a result does not follow its argument, nor another result.
func TestNoisyCountsShareNoMemory(t *testing.T) {
	forAnyCounts(func(counts []int, a, b int) {
		before := slices.Clone(counts)
		first, _ := impl.NoiseAdd(counts, a, b)
		second, _ := impl.NoiseAdd(counts, a, b)
		kept := slices.Clone(whole(first))
		overwrite(counts)
		if !slices.Equal(whole(first), kept) {
			t.Fatalf("NoiseAdd(%v, %d, %d) keeps memory of its argument", before, a, b)
		}
		if shareMemory([][]int{first, second}) {
			t.Fatalf("results of NoiseAdd(%v, %d, %d) share memory", before, a, b)
		}
	})
}

// General rules: also those of calls that fail, or have no counts.
func TestNoisyCountsOfAllCallsShareNoMemory(t *testing.T) {
	var results [][]int
	for many := range impl.ShareMax + 2 {
		for _, seeds := range [][2]int{{5, 17}, {5, -1}, {999, 0}} {
			got, _ := impl.NoiseAdd(slices.Repeat([]int{many}, many), seeds[0], seeds[1])
			results = append(results, got)
		}
	}
	if shareMemory(results) {
		t.Error("results of NoiseAdd share memory")
	}
}

// General rules: results can be extended, one apart from the other.
func TestNoisyCountsCanBeExtended(t *testing.T) {
	forAnyCounts(func(counts []int, a, b int) {
		first, _ := impl.NoiseAdd(counts, a, b)
		second, _ := impl.NoiseAdd(counts, a, b)
		if results := [][]int{first, second, counts}; !extendable(results) {
			t.Fatalf("the results of NoiseAdd become %v", results)
		}
	})
}

// General rules: counts may be a part of a slice, or overlap others.
func TestNoiseAddOfPartsOfOneSlice(t *testing.T) {
	all := countsOf(impl.ShareMax)[1]
	before := slices.Clone(all)
	for from := range all {
		for to := from; to <= len(all); to++ {
			noisyIs(t, all[from:to], 5, 17, countsWith(before[from:to], 5, 17))
			noisyIs(t, all[from:to:to], 5, 17, countsWith(before[from:to], 5, 17))
		}
	}
	if !slices.Equal(all, before) {
		t.Errorf("the counts become %v", all)
	}
}

// General rules: no result is kept to be given again.
func TestNoiseAddReadsItsArgumentsAnew(t *testing.T) {
	counts := []int{4, 5, 6}
	for range 3 {
		noisyIs(t, counts, 5, 17, []int{3, 5, 8})
		overwrite(noisy(t, counts, 5, 17))
		noisyIs(t, counts, 5, 17, []int{3, 5, 8})
		counts[1] = 10000
		noisyFails(t, counts, 5, 17)
		counts[1] = 9999
		noisyIs(t, counts, 5, 17, []int{3, 9999, 8})
		counts[1] = -1
		noisyFails(t, counts, 5, 17)
		counts[1] = 5
		noisyIs(t, counts, 30, 30, []int{2, 5, 8})
	}
}

// General rules: a result that depended on calls before it would differ.
func TestNoiseDoesNotDependOnTheOrderOfCalls(t *testing.T) {
	for seed := impl.SeedMax; seed >= 0; seed-- {
		for at := impl.ShareMax; at >= 0; at-- {
			impl.NoiseOf(seed)
			impl.NoiseMany(at)
			impl.NoiseBoth(-1, seed, at)
			for range 2 {
				if got := impl.NoiseBoth(seed, 17, at); got != noiseBy(seed, 17, at) {
					t.Fatalf("NoiseBoth(%d, 17, %d) is %d after other calls", seed, at, got)
				}
			}
			if got := impl.NoiseOf(at); got != noiseOf(at) {
				t.Fatalf("NoiseOf(%d) is %d after other calls", at, got)
			}
		}
		noisyFails(t, []int{seed, -1}, seed, 17)
		noisyIs(t, []int{seed, seed}, seed, 17, countsWith([]int{seed, seed}, seed, 17))
		if got := impl.NoiseMany(seed%5 - 2); got != frequencies()[seed%5-2] {
			t.Fatalf("NoiseMany(%d) is %d after other calls", seed%5-2, got)
		}
	}
}

// General rules: a goroutine that is still at work after the call would use the
// counts that are overwritten here.
func TestNoiseAddIsDoneWhenItReturns(t *testing.T) {
	d := draw(116)
	for range 2000 {
		counts := d.counts(impl.ShareMax)
		want := countsWith(counts, 5, 17)
		got := noisy(t, counts, 5, 17)
		overwrite(counts)
		if !slices.Equal(got, want) {
			t.Fatalf("the result is %v, not %v", got, want)
		}
	}
}

// General rules: calls at the same time on the same counts keep no state.
func TestNoiseFunctionsAtTheSameTime(t *testing.T) {
	var callers sync.WaitGroup
	shared := countsOf(impl.ShareMax)
	for caller := range 8 {
		callers.Go(func() {
			for seed := caller; seed <= impl.SeedMax; seed += 8 {
				for _, counts := range shared {
					noisyIsRight(t, counts, seed, caller)
					noisyIsRight(t, counts[:caller], seed, -1)
				}
				n := seed % 31
				if impl.NoiseOf(n) != noiseOf(n) || impl.NoiseMany(n) != frequencies()[n] || impl.NoiseBoth(seed, seed, n%21) != noiseBy(seed, seed, n%21) {
					t.Errorf("the noise of %d or with %d is wrong", n, seed)
				}
			}
		})
	}
	callers.Wait()
}

package tests

import (
	"math"
	"slices"
	"sync"
	"testing"

	"loop.example/scrutineer/impl"
)

// outside has numbers that are not in the range 0 to most: just outside it,
// some that other arithmetic would bring back into it, and those at which
// careless arithmetic overflows.
func outside(most int) []int {
	bad := []int{
		math.MinInt, math.MinInt + 1, math.MinInt32, math.MaxInt32, math.MaxInt - 1, math.MaxInt,
		-(1 << 32), 1 << 32, 1<<32 + 1, -100000, 100000,
	}
	for n := 1; n <= 70; n++ {
		bad = append(bad, -n, most+n)
	}
	return bad
}

// someSeeds has both ends, those around multiples of FieldSize, and others.
func someSeeds() []int {
	return []int{0, 1, 2, 5, 17, last, impl.FieldSize, impl.FieldSize + 1, 61, 62, 500, 960, 961, 998, impl.SeedMax}
}

func forDraws(check func(seed, at int)) {
	for seed := range impl.SeedMax + 1 {
		for at := range impl.ShareMax + 1 {
			check(seed, at)
		}
	}
}

// drawOf is the formula of the document.
func drawOf(seed, at int) int {
	return (seed + 7*(seed/31) + 11*at*at + 26*at*(seed%31) + 3*at) % 31
}

func vector(t *testing.T, seed, many int) []int {
	t.Helper()
	v, ok := impl.RandVec(seed, many)
	if !ok {
		t.Fatalf("RandVec(%d, %d) fails", seed, many)
	}
	return v
}

// examples has what some seeds draw at the indexes 0 to ShareMax, calculated
// without this program.
func examples() map[int][]int {
	return map[int][]int{
		0:   {0, 14, 19, 15, 2, 11, 11, 2, 15, 19, 14, 0, 8, 7, 28, 9, 12, 6, 22, 29, 27},
		1:   {1, 10, 10, 1, 14, 18, 13, 30, 7, 6, 27, 8, 11, 5, 21, 28, 26, 15, 26, 28, 21},
		5:   {5, 25, 5, 7, 0, 15, 21, 18, 6, 16, 17, 9, 23, 28, 24, 11, 20, 20, 11, 24, 28},
		17:  {17, 8, 21, 25, 20, 6, 14, 13, 3, 15, 18, 12, 28, 4, 2, 22, 2, 4, 28, 12, 18},
		30:  {30, 18, 28, 29, 21, 4, 9, 5, 23, 1, 1, 23, 5, 9, 4, 21, 29, 28, 18, 30, 2},
		31:  {7, 21, 26, 22, 9, 18, 18, 9, 22, 26, 21, 7, 15, 14, 4, 16, 19, 13, 29, 5, 3},
		32:  {8, 17, 17, 8, 21, 25, 20, 6, 14, 13, 3, 15, 18, 12, 28, 4, 2, 22, 2, 4, 28},
		61:  {6, 25, 4, 5, 28, 11, 16, 12, 30, 8, 8, 30, 12, 16, 11, 28, 5, 4, 25, 6, 9},
		500: {23, 17, 2, 9, 7, 27, 7, 9, 2, 17, 23, 20, 8, 18, 19, 11, 25, 30, 26, 13, 22},
		961: {0, 14, 19, 15, 2, 11, 11, 2, 15, 19, 14, 0, 8, 7, 28, 9, 12, 6, 22, 29, 27},
		998: {13, 28, 3, 0, 19, 29, 30, 22, 5, 10, 6, 24, 2, 2, 24, 6, 10, 5, 22, 30, 29},
		999: {14, 24, 25, 17, 0, 5, 1, 19, 28, 28, 19, 1, 5, 0, 17, 25, 24, 14, 26, 29, 23},
	}
}

// Chapter 4
func TestSeedMaxIsThatOfTheDocument(t *testing.T) {
	if impl.SeedMax != 999 {
		t.Errorf("SeedMax is %d", impl.SeedMax)
	}
}

// Chapter 4, P25
func TestDrawsOfExamples(t *testing.T) {
	for seed, want := range examples() {
		for at, n := range want {
			if got := impl.RandAt(seed, at); got != n {
				t.Errorf("RandAt(%d, %d) is %d, not %d", seed, at, got, n)
			}
		}
		// The draw at index ShareMax is in no vector.
		if got := vector(t, seed, impl.ShareMax); !slices.Equal(got, want[:20]) {
			t.Errorf("RandVec(%d, %d) is %v, not %v", seed, impl.ShareMax, got, want[:20])
		}
	}
}

// Chapter 4
func TestRandAtFollowsTheFormula(t *testing.T) {
	forDraws(func(seed, at int) {
		if got, want := impl.RandAt(seed, at), drawOf(seed, at); got != want {
			t.Errorf("RandAt(%d, %d) is %d, not %d", seed, at, got, want)
		}
	})
}

// P25
func TestRandAtIsAnElement(t *testing.T) {
	forDraws(func(seed, at int) {
		if got := impl.RandAt(seed, at); !impl.FieldOk(got) {
			t.Errorf("RandAt(%d, %d) is %d", seed, at, got)
		}
	})
}

// P25
func TestRandVecListsRandAt(t *testing.T) {
	for seed := range impl.SeedMax + 1 {
		for many := range impl.ShareMax + 1 {
			got := vector(t, seed, many)
			if len(got) != many || !impl.ShareOk(got) {
				t.Fatalf("RandVec(%d, %d) is %v", seed, many, got)
			}
			for at, n := range got {
				if n != impl.RandAt(seed, at) || n != drawOf(seed, at) {
					t.Errorf("RandVec(%d, %d) has %d at %d", seed, many, n, at)
				}
			}
		}
	}
}

// P25
func TestShorterRandVecIsAPrefix(t *testing.T) {
	for seed := range impl.SeedMax + 1 {
		longest := vector(t, seed, impl.ShareMax)
		for many := range impl.ShareMax + 1 {
			if got := vector(t, seed, many); !slices.Equal(got, longest[:many]) {
				t.Errorf("RandVec(%d, %d) is %v, but %v begins otherwise", seed, many, got, longest)
			}
		}
	}
}

// P25
func TestRandVecOfNoElements(t *testing.T) {
	for seed := range impl.SeedMax + 1 {
		if got := vector(t, seed, 0); len(got) != 0 {
			t.Errorf("RandVec(%d, 0) is %v", seed, got)
		}
	}
}

// P25
func TestRandVecAtTheLimit(t *testing.T) {
	for seed := range impl.SeedMax + 1 {
		if got := vector(t, seed, impl.ShareMax); len(got) != 20 {
			t.Errorf("RandVec(%d, ShareMax) is %v", seed, got)
		}
		if got, ok := impl.RandVec(seed, impl.ShareMax+1); ok || len(got) != 0 {
			t.Errorf("RandVec(%d, ShareMax+1) is %v, %t", seed, got, ok)
		}
	}
}

func vectorFails(t *testing.T, seed, many int) {
	t.Helper()
	if got, ok := impl.RandVec(seed, many); ok || len(got) != 0 {
		t.Errorf("RandVec(%d, %d) is %v, %t", seed, many, got, ok)
	}
}

// P25
func TestRandVecOfInvalidArguments(t *testing.T) {
	for _, seed := range outside(impl.SeedMax) {
		for many := range impl.ShareMax + 1 {
			vectorFails(t, seed, many)
		}
		for _, many := range outside(impl.ShareMax) {
			vectorFails(t, seed, many)
		}
	}
	for _, many := range outside(impl.ShareMax) {
		for _, seed := range someSeeds() {
			vectorFails(t, seed, many)
		}
	}
}

// P26
func TestEachElementIsDrawnByOneSeed(t *testing.T) {
	for at := range impl.ShareMax + 1 {
		var times [impl.FieldSize]int
		for seed := range impl.FieldSize {
			times[impl.RandAt(seed, at)]++
		}
		for n, many := range times {
			if many != 1 {
				t.Errorf("%d of the first seeds draw %d at %d", many, n, at)
			}
		}
	}
}

// P26
func TestEachElementOfAVectorIsDrawnByOneSeed(t *testing.T) {
	var times [impl.ShareMax][impl.FieldSize]int
	for seed := range impl.FieldSize {
		for at, n := range vector(t, seed, impl.ShareMax) {
			times[at][n]++
		}
	}
	for at, row := range times {
		for n, many := range row {
			if many != 1 {
				t.Errorf("%d of the first vectors have %d at %d", many, n, at)
			}
		}
	}
}

// Chapter 4, P27
func TestRandBothOfExamples(t *testing.T) {
	for _, c := range []struct{ a, b, at, want int }{
		{0, 0, 0, 0}, {5, 17, 0, 22}, {17, 5, 0, 22}, {30, 1, 0, 0}, {30, 30, 0, 29}, {0, 0, 20, 23}, {5, 17, 20, 15},
		{999, 999, 20, 15}, {0, 999, 20, 19}, {999, 0, 20, 19}, {999, 999, 0, 28}, {998, 999, 19, 28}, {961, 0, 1, 28},
	} {
		if got := impl.RandBoth(c.a, c.b, c.at); got != c.want {
			t.Errorf("RandBoth(%d, %d, %d) is %d, not %d", c.a, c.b, c.at, got, c.want)
		}
	}
}

// P27
func TestRandBothIsTheSumOfBothDraws(t *testing.T) {
	forDraws(func(a, at int) {
		for _, b := range someSeeds() {
			want := (drawOf(a, at) + drawOf(b, at)) % 31
			if got := impl.FieldSum(impl.RandAt(a, at), impl.RandAt(b, at)); got != want {
				t.Errorf("the draws of %d and %d at %d add up to %d, not %d", a, b, at, got, want)
			}
			if got := impl.RandBoth(a, b, at); got != want {
				t.Errorf("RandBoth(%d, %d, %d) is %d, not %d", a, b, at, got, want)
			}
			if got := impl.RandBoth(b, a, at); got != want {
				t.Errorf("RandBoth(%d, %d, %d) is %d, not %d", b, a, at, got, want)
			}
		}
	})
}

// P27
func TestRandBothOfASeedAndItself(t *testing.T) {
	forDraws(func(seed, at int) {
		if got, want := impl.RandBoth(seed, seed, at), 2*drawOf(seed, at)%31; got != want {
			t.Errorf("RandBoth(%d, %d, %d) is %d, not %d", seed, seed, at, got, want)
		}
	})
}

// P27
func TestEachElementOfBothIsDrawnByOneOtherSeed(t *testing.T) {
	forDraws(func(seed, at int) {
		var second, first [impl.FieldSize]int
		for other := range impl.FieldSize {
			second[impl.RandBoth(seed, other, at)]++
			first[impl.RandBoth(other, seed, at)]++
		}
		for n := range impl.FieldSize {
			if second[n] != 1 || first[n] != 1 {
				t.Errorf("%d is drawn with %d at %d by %d second and %d first seeds", n, seed, at, second[n], first[n])
			}
		}
	})
}

func bothIsZero(t *testing.T, a, b, at int) {
	t.Helper()
	if got := impl.RandBoth(a, b, at); got != 0 {
		t.Errorf("RandBoth(%d, %d, %d) is %d", a, b, at, got)
	}
}

// P27
func TestRandBothOfInvalidSeeds(t *testing.T) {
	for _, bad := range outside(impl.SeedMax) {
		for at := range impl.ShareMax + 1 {
			for _, seed := range someSeeds() {
				bothIsZero(t, bad, seed, at)
				bothIsZero(t, seed, bad, at)
			}
			for _, other := range outside(impl.SeedMax) {
				bothIsZero(t, bad, other, at)
			}
		}
	}
}

// P27
func TestRandBothOfInvalidIndexes(t *testing.T) {
	for _, at := range outside(impl.ShareMax) {
		for _, a := range someSeeds() {
			for _, b := range someSeeds() {
				bothIsZero(t, a, b, at)
			}
			for _, bad := range outside(impl.SeedMax) {
				bothIsZero(t, a, bad, at)
				bothIsZero(t, bad, a, at)
			}
		}
		for _, bad := range outside(impl.SeedMax) {
			for _, other := range outside(impl.SeedMax) {
				bothIsZero(t, bad, other, at)
			}
		}
	}
}

// P28
func TestRandAtOfTheFirstIndexIsTheSeed(t *testing.T) {
	for seed := range impl.FieldSize {
		if got := impl.RandAt(seed, 0); got != seed {
			t.Errorf("RandAt(%d, 0) is %d", seed, got)
		}
		if got := vector(t, seed, 1); got[0] != seed {
			t.Errorf("RandVec(%d, 1) is %v", seed, got)
		}
	}
}

func drawIsZero(t *testing.T, seed, at int) {
	t.Helper()
	if got := impl.RandAt(seed, at); got != 0 {
		t.Errorf("RandAt(%d, %d) is %d", seed, at, got)
	}
}

// P28
func TestRandAtOfInvalidArguments(t *testing.T) {
	for _, seed := range outside(impl.SeedMax) {
		for at := range impl.ShareMax + 1 {
			drawIsZero(t, seed, at)
		}
		for _, at := range outside(impl.ShareMax) {
			drawIsZero(t, seed, at)
		}
	}
	for _, at := range outside(impl.ShareMax) {
		for seed := range impl.SeedMax + 1 {
			drawIsZero(t, seed, at)
		}
	}
}

// General rules, P25
func TestRandVecsShareNoMemory(t *testing.T) {
	for _, seed := range someSeeds() {
		for many := range impl.ShareMax + 1 {
			first := vector(t, seed, many)
			before := slices.Clone(whole(first))
			for _, other := range someSeeds() {
				for more := range impl.ShareMax + 1 {
					overwrite(vector(t, other, more))
				}
			}
			overwrite(vector(t, seed, many))
			if !slices.Equal(whole(first), before) {
				t.Fatalf("RandVec(%d, %d) shares memory with another", seed, many)
			}
			if got := vector(t, seed, many); !slices.Equal(got, before[:many]) {
				t.Fatalf("RandVec(%d, %d) was %v and is %v", seed, many, before[:many], got)
			}
		}
	}
}

// General rules, P25: what is empty may still have memory beyond its length.
func TestFailedRandVecsShareNoMemory(t *testing.T) {
	failed, _ := impl.RandVec(impl.SeedMax+1, impl.ShareMax)
	made := vector(t, impl.SeedMax, impl.ShareMax)
	beforeFailed, beforeMade := slices.Clone(whole(failed)), slices.Clone(whole(made))
	for _, seed := range append(outside(impl.SeedMax), someSeeds()...) {
		for _, many := range append(outside(impl.ShareMax), 0, 1, impl.ShareMax) {
			v, _ := impl.RandVec(seed, many)
			overwrite(v)
		}
	}
	if !slices.Equal(whole(failed), beforeFailed) || !slices.Equal(whole(made), beforeMade) {
		t.Error("a failed RandVec shares memory with another")
	}
}

// General rules: a draw that depended on those before it would differ.
func TestDrawsDoNotDependOnTheOrderOfCalls(t *testing.T) {
	for seed := impl.SeedMax; seed >= 0; seed-- {
		for at := impl.ShareMax; at >= 0; at-- {
			impl.RandAt(-1, at)
			impl.RandBoth(seed, 7, at)
			for range 2 {
				if got := impl.RandAt(seed, at); got != drawOf(seed, at) {
					t.Fatalf("RandAt(%d, %d) is %d after other calls", seed, at, got)
				}
			}
		}
	}
}

// General rules: calls at the same time keep no state.
func TestDrawsAtTheSameTime(t *testing.T) {
	var callers sync.WaitGroup
	for caller := range 8 {
		callers.Go(func() {
			for seed := caller; seed <= impl.SeedMax; seed += 8 {
				v, ok := impl.RandVec(seed, impl.ShareMax)
				if !ok || len(v) != impl.ShareMax {
					t.Errorf("RandVec(%d, ShareMax) is %v, %t", seed, v, ok)
				}
				for at, n := range v {
					if n != drawOf(seed, at) || impl.RandBoth(seed, seed, at) != 2*n%31 {
						t.Errorf("RandVec(%d, ShareMax) has %d at %d", seed, n, at)
					}
				}
			}
		})
	}
	callers.Wait()
}

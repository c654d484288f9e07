package tests

import (
	"fmt"
	"math"
	"math/rand"
	"testing"

	"loop.example/g01149/impl"
)

func later(delay int64, r impl.Region) impl.Merge { return impl.Merge{Region: r, Delay: delay} }

// checkMerge merges in both directions.
func checkMerge(t *testing.T, a, b, want impl.Merge, toA, toB int64, ok bool) {
	t.Helper()
	m, x, y, done := impl.MergePair(a, b)
	same(t, fmt.Sprint("merge ", a, b), results(m, x, y, done), results(want, toA, toB, ok))
	m, x, y, done = impl.MergePair(b, a)
	same(t, fmt.Sprint("merge ", b, a), results(m, x, y, done), results(want, toB, toA, ok))
}

func TestPromise7MergeByHand(t *testing.T) {
	for _, row := range []struct {
		a, b     impl.Merge
		want     impl.Merge
		toA, toB int64
	}{
		{later(0, onePlace(0, 0)), later(0, onePlace(8192, 8192)), later(4096, onePlace(4096, 4096)), 4096, 4096}, // the document's examples
		{later(0, onePlace(0, 0)), later(0, onePlace(8192, 0)), later(4096, region(4096, 4096, -4096, 4096)), 4096, 4096},
		{later(0, onePlace(0, 0)), later(0, onePlace(0, 0)), later(0, onePlace(0, 0)), 0, 0}, // the same pin
		{later(7, onePlace(0, 0)), later(7, onePlace(4, 2)), later(9, region(2, 2, 0, 2)), 2, 2},
		{later(7, region(-3, 0, 0, 1)), later(7, region(4, 9, 1, 8)), later(9, region(2, 2, -1, 3)), 2, 2},
		{later(5, region(0, 9, 0, 9)), later(5, region(3, 20, 2, 4)), later(5, region(3, 9, 2, 4)), 0, 0}, // they meet
		{later(3, onePlace(0, 0)), later(1, onePlace(4, 0)), later(4, region(1, 1, -1, 1)), 1, 3},         // differ by less than the distance
		{later(3, onePlace(0, 0)), later(0, onePlace(5, 0)), later(4, region(1, 1, -1, 1)), 1, 4},         // the distance is odd, too
		{later(4, onePlace(0, 0)), later(0, onePlace(4, 0)), later(4, onePlace(0, 0)), 0, 4},              // by just the distance
		{later(5, onePlace(0, 0)), later(0, onePlace(5, 3)), later(5, onePlace(0, 0)), 0, 5},
		{later(5, onePlace(0, 0)), later(0, onePlace(4, 0)), later(5, onePlace(0, 0)), 0, 5},    // by one more
		{later(99, onePlace(0, 0)), later(1, onePlace(4, 0)), later(99, onePlace(0, 0)), 0, 98}, // by much more
		{later(9, impl.Region{}), later(0, region(2, 2, 0, 0)), later(9, impl.Region{}), 0, 9},
		{later(9, region(0, 2, 0, 2)), later(6, region(1, 8, 1, 8)), later(9, region(0, 2, 0, 2)), 0, 3}, // they meet
		{later(9, region(0, 20, 0, 2)), later(6, onePlace(1, 1)), later(9, region(0, 4, 0, 2)), 0, 3},
		{later(1, onePlace(0, 0)), later(0, onePlace(0, 0)), later(1, onePlace(0, 0)), 0, 1},
	} {
		checkMerge(t, row.a, row.b, row.want, row.toA, row.toB, true)
	}
}

func TestPromise7MergeAtLimits(t *testing.T) {
	for _, row := range []struct {
		a, b     impl.Merge
		want     impl.Merge
		toA, toB int64
	}{
		{later(maxValue, onePlace(0, 0)), later(maxValue, onePlace(0, 0)), later(maxValue, onePlace(0, 0)), 0, 0},
		{later(maxValue, onePlace(0, 0)), later(0, onePlace(0, 0)), later(maxValue, onePlace(0, 0)), 0, maxValue},
		{later(maxValue-1, onePlace(0, 0)), later(maxValue-1, onePlace(2, 0)), later(maxValue, region(1, 1, -1, 1)), 1, 1},
		{later(maxValue, onePlace(0, 0)), later(maxValue-2, onePlace(2, 0)), later(maxValue, onePlace(0, 0)), 0, 2},
		{later(0, onePlace(-maxValue, 0)), later(0, onePlace(maxValue, 0)), later(maxValue, region(0, 0, -maxValue, maxValue)), maxValue, maxValue},
		{later(0, onePlace(7, -maxValue)), later(0, onePlace(-7, maxValue)), later(maxValue, region(7-maxValue, maxValue-7, 0, 0)), maxValue, maxValue},
		{later(2, onePlace(-maxValue, 0)), later(0, onePlace(maxValue-2, 0)), later(maxValue, region(-2, -2, -maxValue+2, maxValue-2)), maxValue - 2, maxValue},
		// Only what the grown regions have in common must be valid.
		{later(0, onePlace(maxValue, 0)), later(0, onePlace(maxValue-2, 0)), later(1, region(maxValue-1, maxValue-1, -1, 1)), 1, 1},
		{later(0, onePlace(9, -maxValue)), later(0, onePlace(8, 4-maxValue)), later(2, region(7, 10, 2-maxValue, 2-maxValue)), 2, 2},
		{later(8, onePlace(maxValue, maxValue)), later(0, onePlace(maxValue, maxValue)), later(8, onePlace(maxValue, maxValue)), 0, 8},
		{later(maxValue, onePlace(-maxValue, 5)), later(0, onePlace(-maxValue, 5)), later(maxValue, onePlace(-maxValue, 5)), 0, maxValue},
		{later(8, region(-maxValue, maxValue, -maxValue, maxValue)), later(0, onePlace(0, 0)), later(8, region(-8, 8, -8, 8)), 0, 8},
	} {
		checkMerge(t, row.a, row.b, row.want, row.toA, row.toB, true)
	}
}

func TestPromise7MergeFails(t *testing.T) {
	for _, pair := range [][2]impl.Merge{
		{later(0, onePlace(0, 0)), later(0, onePlace(3, 0))}, // a half that is no integer
		{later(0, onePlace(0, 0)), later(0, onePlace(0, 1))},
		{later(3, onePlace(0, 0)), later(1, onePlace(5, 5))},
		{later(3, onePlace(0, 0)), later(0, onePlace(4, 4))},
		{later(maxValue, onePlace(0, 0)), later(maxValue, onePlace(2, 0))}, // the delay becomes too great
		{later(maxValue, onePlace(0, 0)), later(maxValue-1, onePlace(3, 0))},
		{later(2, onePlace(-maxValue, 0)), later(0, onePlace(maxValue, 0))},
		{later(1, onePlace(-maxValue, 0)), later(1, onePlace(maxValue, 0))},
		{later(maxValue, onePlace(-maxValue, 0)), later(0, onePlace(maxValue, 0))},
		{later(0, onePlace(0, maxValue)), later(0, onePlace(2, maxValue))}, // the region goes too far
		{later(0, onePlace(0, -maxValue)), later(0, onePlace(2, -maxValue))},
		{later(0, onePlace(maxValue, 0)), later(0, onePlace(maxValue, 2))},
		{later(0, onePlace(-maxValue, 0)), later(0, onePlace(-maxValue, 2))},
		{later(-1, impl.Region{}), later(0, impl.Region{})}, // delays that are no lengths
		{later(-1, impl.Region{}), later(-1, impl.Region{})},
		{later(maxValue+1, impl.Region{}), later(0, impl.Region{})},
		{later(maxValue+1, impl.Region{}), later(maxValue+1, impl.Region{})},
		{later(math.MinInt64, impl.Region{}), later(0, impl.Region{})},
		{later(math.MaxInt64, impl.Region{}), later(0, impl.Region{})},
		{later(math.MaxInt64, impl.Region{}), later(math.MinInt64, impl.Region{})},
	} {
		checkMerge(t, pair[0], pair[1], impl.Merge{}, 0, 0, false)
	}
	for _, wrong := range wrongRegions() {
		for _, r := range []impl.Region{wrong, {}, region(-9, 9, -9, 9)} {
			checkMerge(t, later(4, wrong), later(4, r), impl.Merge{}, 0, 0, false)
			checkMerge(t, later(900, wrong), later(0, r), impl.Merge{}, 0, 0, false)
			checkMerge(t, later(0, wrong), later(900, r), impl.Merge{}, 0, 0, false)
		}
	}
}

// leastWires tries wires in steps of a half, from 0 on: both roots are equally
// late, and the wires reach from one region to the other one. It returns
// twice the wires.
func leastWires(a, b impl.Merge) (twiceA, twiceB int64) {
	far := farByPlaces(a.Region, b.Region)
	for ; ; twiceA++ {
		twiceB = twiceA + 2*(a.Delay-b.Delay)
		if twiceB >= 0 && twiceA+twiceB >= 2*far {
			return twiceA, twiceB
		}
	}
}

// TestPromise7MergeByPlaces finds wires and regions among all places.
func TestPromise7MergeByPlaces(t *testing.T) {
	dice := rand.New(rand.NewSource(97))
	regions := regionsIn(5)
	halves, longer, touching := 0, 0, 0
	for range 4000 {
		a := later(dice.Int63n(8), regions[dice.Intn(len(regions))])
		b := later(dice.Int63n(8), regions[dice.Intn(len(regions))])
		twiceA, twiceB := leastWires(a, b)
		if twiceA%2 != 0 {
			checkMerge(t, a, b, impl.Merge{}, 0, 0, false)
			halves++
			continue
		}
		toA, toB := twiceA/2, twiceB/2
		m, x, y, ok := impl.MergePair(a, b)
		want := placesWhere(14, func(p turnedPlace) bool {
			return p.farFromRegion(a.Region) <= toA && p.farFromRegion(b.Region) <= toB
		})
		same(t, fmt.Sprint("merge ", a, b), results(placesIn(m.Region), m.Delay, x, y, ok), results(want, a.Delay+toA, toA, toB, true))
		if far := farByPlaces(a.Region, b.Region); far < toA+toB {
			longer++
		} else {
			touching++
		}
	}
	if halves < 200 || longer < 400 || touching < 400 {
		t.Errorf("too few merges have halves, %d, or longer wires than the distance, %d, or as long ones, %d", halves, longer, touching)
	}
}

// nearLimit is a number that is mostly close to 0 or to an end.
func nearLimit(dice *rand.Rand) int64 {
	bases := []int64{0, maxValue, -maxValue, maxValue / 2, -maxValue / 2, 2}
	return bases[dice.Intn(len(bases))] + dice.Int63n(5) - 2
}

// TestPromise7MergeByRule has merges of all sizes, many of them at the limits.
func TestPromise7MergeByRule(t *testing.T) {
	dice := rand.New(rand.NewSource(101))
	good, bad := 0, 0
	for range 100000 {
		var pair [2]impl.Merge
		for i := range pair {
			u, v := nearLimit(dice), nearLimit(dice)
			pair[i] = later(absoluteOf(nearLimit(dice)), region(u, u+dice.Int63n(4), v, v+dice.Int63n(4)))
		}
		m, toA, toB, ok := mergeByRule(pair[0], pair[1])
		checkMerge(t, pair[0], pair[1], m, toA, toB, ok)
		if ok {
			good++
		} else {
			bad++
		}
	}
	if good < 2000 || bad < 2000 {
		t.Errorf("too few merges are valid, %d, or fail, %d", good, bad)
	}
}

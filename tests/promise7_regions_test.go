package tests

import (
	"fmt"
	"math"
	"math/rand"
	"testing"

	"loop.example/g01149/impl"
)

const maxValue = impl.MaxValue

func TestPromise7Limits(t *testing.T) {
	same(t, "limits", results(impl.MaxLeaves, impl.MaxBest, impl.Scale), results(12, 5, 4096))
}

func TestPromise7ValidRegion(t *testing.T) {
	for _, row := range []struct {
		r    impl.Region
		want bool
	}{
		{impl.Region{}, true}, // one place
		{onePlace(-7, 9), true},
		{region(1, 2, 3, 4), true},
		{region(-5, -4, -3, -2), true},
		{region(2, 1, 3, 4), false},
		{region(1, 2, 4, 3), false},
		{region(2, 1, 4, 3), false},
		{region(-maxValue, maxValue, -maxValue, maxValue), true},
		{onePlace(maxValue, maxValue), true},
		{onePlace(-maxValue, -maxValue), true},
		{region(-maxValue-1, 0, 0, 0), false},
		{region(0, maxValue+1, 0, 0), false},
		{region(0, 0, -maxValue-1, 0), false},
		{region(0, 0, 0, maxValue+1), false},
		{onePlace(maxValue+1, 0), false},
		{onePlace(0, -maxValue-1), false},
		{region(math.MinInt64, math.MaxInt64, 0, 0), false},
		{region(0, 0, math.MinInt64, math.MaxInt64), false},
		{region(math.MaxInt64, math.MinInt64, 0, 0), false},
	} {
		same(t, fmt.Sprint("ValidRegion ", row.r), impl.ValidRegion(row.r), row.want)
	}
	ends := []int64{0, 1, -1, maxValue, -maxValue, maxValue + 1, -maxValue - 1, math.MinInt64, math.MaxInt64}
	for _, a := range ends {
		for _, b := range ends {
			for _, c := range ends {
				for _, d := range ends {
					r := region(a, b, c, d)
					same(t, fmt.Sprint("ValidRegion ", r), impl.ValidRegion(r), isRegion(r))
				}
			}
		}
	}
}

func TestPromise7LeafRegion(t *testing.T) {
	for _, p := range square(100) {
		r, ok := impl.LeafRegion(p)
		same(t, fmt.Sprint("leaf ", p), results(r, ok), results(onePlace(4096*p.X+4096*p.Y, 4096*p.X-4096*p.Y), true))
	}
	for _, p := range strangers() {
		r, ok := impl.LeafRegion(p)
		same(t, fmt.Sprint("leaf ", p), results(r, ok), results(impl.Region{}, false))
	}
	r, ok := impl.LeafRegion(impl.Point{X: 3, Y: 1})
	same(t, "leaf", results(r, ok), results(region(16384, 16384, 8192, 8192), true))
	r, ok = impl.LeafRegion(impl.Point{Y: 99})
	same(t, "leaf", results(r, ok), results(region(405504, 405504, -405504, -405504), true))
}

// TestPromise7LeavesApart compares the distances of leaves with those of points.
func TestPromise7LeavesApart(t *testing.T) {
	dice := rand.New(rand.NewSource(89))
	for range 3000 {
		pins := diceLeaves(dice, 2, 100)
		a, _ := impl.LeafRegion(pins[0])
		b, _ := impl.LeafRegion(pins[1])
		d, ok := impl.FarRegions(a, b)
		same(t, fmt.Sprint("leaves of ", pins), results(d, ok), results(4096*far(pins[0], pins[1]), true))
	}
}

func TestPromise7GrowByPlaces(t *testing.T) {
	for _, r := range regionsIn(3) {
		for by := range int64(4) {
			grown, ok := impl.GrowRegion(r, by)
			want := placesWhere(7, func(p turnedPlace) bool { return p.farFromRegion(r) <= by })
			same(t, fmt.Sprint("places of ", r, " by ", by), results(placesIn(grown), ok), results(want, true))
		}
	}
}

func TestPromise7GrowByHand(t *testing.T) {
	for _, row := range []struct {
		r    impl.Region
		by   int64
		want impl.Region
		ok   bool
	}{
		{impl.Region{}, 0, impl.Region{}, true},
		{impl.Region{}, 2, region(-2, 2, -2, 2), true},
		{region(-5, 1, 3, 9), 4, region(-9, 5, -1, 13), true},
		{region(-maxValue, maxValue, -maxValue, maxValue), 0, region(-maxValue, maxValue, -maxValue, maxValue), true}, // by 0
		{region(-maxValue, maxValue, -maxValue, maxValue), 1, impl.Region{}, false},
		{impl.Region{}, maxValue, region(-maxValue, maxValue, -maxValue, maxValue), true}, // by MaxValue
		{impl.Region{}, maxValue + 1, impl.Region{}, false},
		{impl.Region{}, math.MaxInt64, impl.Region{}, false},
		{impl.Region{}, -1, impl.Region{}, false}, // by a negative number
		{region(-9, 9, -9, 9), -1, impl.Region{}, false},
		{region(-9, 9, -9, 9), math.MinInt64, impl.Region{}, false},
		{region(0, 1, 0, 0), maxValue, impl.Region{}, false}, // one side is one too far
		{region(-1, 0, 0, 0), maxValue, impl.Region{}, false},
		{region(0, 0, 0, 1), maxValue, impl.Region{}, false},
		{region(0, 0, -1, 0), maxValue, impl.Region{}, false},
		{region(0, 1, 0, 0), maxValue - 1, region(1-maxValue, maxValue, 1-maxValue, maxValue-1), true},
		{region(5, maxValue-3, 0, 0), 3, region(2, maxValue, -3, 3), true},
		{region(0, 0, 3-maxValue, 5), 3, region(-3, 3, -maxValue, 8), true},
		{region(1, 0, 0, 0), 3, impl.Region{}, false}, // would be valid if it were grown
		{region(0, 0, 1, 0), 3, impl.Region{}, false},
		{onePlace(maxValue+1, 0), 0, impl.Region{}, false},
	} {
		grown, ok := impl.GrowRegion(row.r, row.by)
		same(t, fmt.Sprint("grow ", row.r, " by ", row.by), results(grown, ok), results(row.want, row.ok))
	}
}

// TestPromise7MeetByPlaces looks at all places of all pairs of small regions.
func TestPromise7MeetByPlaces(t *testing.T) {
	apart := 0
	for _, a := range regionsIn(4) {
		inA := placesIn(a)
		for _, b := range regionsIn(4) {
			var want []turnedPlace
			for _, p := range inA {
				if p[0] >= b.LowU && p[0] <= b.HighU && p[1] >= b.LowV && p[1] <= b.HighV {
					want = append(want, p)
				}
			}
			common, ok := impl.MeetRegions(a, b)
			if !ok {
				apart++
				same(t, fmt.Sprint("no meeting of ", a, b), common, impl.Region{})
				same(t, fmt.Sprint("places of ", a, b), len(want), 0)
				continue
			}
			same(t, fmt.Sprint("places of ", a, b), placesIn(common), want)
		}
	}
	if apart < 3000 {
		t.Errorf("too few are apart: %d", apart)
	}
}

func TestPromise7FarByPlaces(t *testing.T) {
	for _, a := range regionsIn(4) {
		for _, b := range regionsIn(4) {
			d, ok := impl.FarRegions(a, b)
			same(t, fmt.Sprint("distance of ", a, b), results(d, ok), results(farByPlaces(a, b), true))
		}
	}
}

func TestPromise7TwoByHand(t *testing.T) {
	for _, row := range []struct {
		a, b   impl.Region
		common impl.Region
		meet   bool
		far    int64
	}{
		{region(-2, 2, -2, 2), region(1, 9, -9, 0), region(1, 2, -2, 0), true, 0},
		{region(-2, 2, -2, 2), region(-2, 2, -2, 2), region(-2, 2, -2, 2), true, 0},
		{region(-9, 9, -9, 9), region(-2, 2, 3, 4), region(-2, 2, 3, 4), true, 0}, // one in the other
		{region(-9, 9, 0, 1), region(0, 1, -9, 9), region(0, 1, 0, 1), true, 0},   // across one another
		{region(0, 2, 0, 2), region(2, 5, 2, 7), onePlace(2, 2), true, 0},         // in one place, at a corner
		{region(0, 2, 0, 2), region(-5, 0, 2, 7), onePlace(0, 2), true, 0},
		{onePlace(4, 5), onePlace(4, 5), onePlace(4, 5), true, 0},             // both are one place
		{region(0, 2, 0, 2), region(2, 5, 0, 2), region(2, 2, 0, 2), true, 0}, // at a side
		{region(0, 2, 0, 2), region(1, 5, -3, 0), region(1, 2, 0, 0), true, 0},
		{region(0, 2, 0, 2), region(3, 5, 0, 2), impl.Region{}, false, 1}, // in none, apart in U
		{region(0, 2, 0, 2), region(-9, -4, 0, 2), impl.Region{}, false, 4},
		{region(0, 2, 0, 2), region(0, 2, 3, 9), impl.Region{}, false, 1}, // apart in V
		{region(0, 2, 0, 2), region(1, 1, -7, -5), impl.Region{}, false, 5},
		{region(0, 2, 0, 2), region(5, 9, 6, 9), impl.Region{}, false, 4}, // apart in both
		{region(0, 2, 0, 2), region(7, 9, -3, -1), impl.Region{}, false, 5},
		{region(0, 2, 0, 2), region(-8, -3, -4, -3), impl.Region{}, false, 3},
		{onePlace(-maxValue, 0), onePlace(maxValue, 0), impl.Region{}, false, 2 * maxValue}, // more than MaxValue
		{onePlace(0, maxValue), onePlace(0, -maxValue), impl.Region{}, false, 2 * maxValue},
		{onePlace(-maxValue, maxValue), onePlace(maxValue, -maxValue), impl.Region{}, false, 2 * maxValue},
		{region(-maxValue, maxValue, -maxValue, maxValue), onePlace(maxValue, -maxValue), onePlace(maxValue, -maxValue), true, 0},
	} {
		for range 2 {
			common, ok := impl.MeetRegions(row.a, row.b)
			same(t, fmt.Sprint("meet ", row.a, row.b), results(common, ok), results(row.common, row.meet))
			d, ok := impl.FarRegions(row.a, row.b)
			same(t, fmt.Sprint("far ", row.a, row.b), results(d, ok), results(row.far, true))
			row.a, row.b = row.b, row.a
		}
	}
}

// wrongRegions are not valid, though most of them have something in common
// with each region around 0.
func wrongRegions() []impl.Region {
	return []impl.Region{
		region(1, 0, 0, 0), region(0, 0, 1, 0), region(9, -9, -9, 9), region(-9, 9, 9, -9),
		region(-maxValue-1, 0, 0, 0), region(0, maxValue+1, 0, 0), region(0, 0, -maxValue-1, 0), region(0, 0, 0, maxValue+1),
		onePlace(maxValue+1, 0), onePlace(-maxValue-1, 0), onePlace(0, maxValue+1), onePlace(0, -maxValue-1),
		region(math.MinInt64, math.MaxInt64, math.MinInt64, math.MaxInt64),
	}
}

func TestPromise7WrongRegions(t *testing.T) {
	for _, wrong := range wrongRegions() {
		for _, r := range append(wrongRegions(), impl.Region{}, region(-9, 9, -9, 9), region(-maxValue, maxValue, -maxValue, maxValue)) {
			for _, pair := range [][2]impl.Region{{wrong, r}, {r, wrong}} {
				common, ok := impl.MeetRegions(pair[0], pair[1])
				same(t, fmt.Sprint("meet ", pair), results(common, ok), results(impl.Region{}, false))
				d, ok := impl.FarRegions(pair[0], pair[1])
				same(t, fmt.Sprint("far ", pair), results(d, ok), results(0, false))
			}
		}
	}
}

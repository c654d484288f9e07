package tests

import (
	"math"
	"math/rand"
	"slices"
	"testing"

	"loop.example/g01149/impl"
)

// checkClock compares merges, wires, places and the skew with the document's
// rules.
func checkClock(t *testing.T, pins []impl.Point, joins [][]int64) clock {
	t.Helper()
	what := brief(pins, joins)
	want := clockByRule(pins, joins)
	merges, ok := impl.ClockMerges(pins, joins)
	same(t, "merges of "+what, results(merges, ok), results(want.merges, true))
	wires, ok := impl.ClockWires(pins, joins)
	same(t, "wires of "+what, results(wires, ok), results(want.wires, true))
	places, ok := impl.ClockPlaces(pins, joins)
	same(t, "places of "+what, results(places, ok), results(want.places, true))
	skew, ok := impl.SkewOf(int64(len(pins)), joins, wires)
	same(t, "skew of "+what, results(skew, ok), results(0, true))
	return want
}

func TestPromise7Clocks(t *testing.T) {
	longer, split := 0, 0
	severalClocks(400, func(pins []impl.Point, joins [][]int64) {
		c := checkClock(t, pins, joins)
		for _, join := range joins {
			a, b := join[0], join[1]
			far, _ := impl.FarRegions(c.merges[a].Region, c.merges[b].Region)
			if far < c.wires[a]+c.wires[b] {
				longer++
			} else if c.wires[a] != c.wires[b] {
				split++
			}
		}
	})
	if longer < 1000 || split < 1000 {
		t.Errorf("too few joins have wires longer than the distance, %d, or different ones, %d", longer, split)
	}
	listsOver(square(3), 3, func(pins []impl.Point) {
		for _, joins := range allJoins(3) {
			checkClock(t, pins, joins)
		}
	})
}

// sumsToPins adds the wires on the way up from each pin.
func sumsToPins(count int, joins [][]int64, wires []int64) []int64 {
	var sums []int64
	for pin := range int64(count) {
		sum, node := int64(0), pin
		for i, join := range joins {
			if slices.Contains(join, node) {
				sum += wires[node]
				node = int64(count + i)
			}
		}
		sums = append(sums, sum)
	}
	return sums
}

// TestPromise7NoSkew checks without the rules that all pins are equally far
// from the last node, and that each wire reaches from place to place.
func TestPromise7NoSkew(t *testing.T) {
	atLow, atHigh, inside, slack := 0, 0, 0, 0
	severalClocks(400, func(pins []impl.Point, joins [][]int64) {
		what := brief(pins, joins)
		merges, _ := impl.ClockMerges(pins, joins)
		wires, _ := impl.ClockWires(pins, joins)
		places, _ := impl.ClockPlaces(pins, joins)
		delay := merges[len(merges)-1].Delay
		same(t, "sums of "+what, sumsToPins(len(pins), joins, wires), slices.Repeat([]int64{delay}, len(pins)))
		for i, p := range pins {
			same(t, "place of a pin of "+what, places[i], []int64{4096 * (p.X + p.Y), 4096 * (p.X - p.Y)})
		}
		for i, join := range joins {
			above := places[len(pins)+i]
			for _, node := range join {
				r, at := merges[node].Region, turnedPlace(places[node])
				to, _ := impl.FarRegions(onePlace(above[0], above[1]), r)
				if d := at.farFrom(turnedPlace(above)); d != to || d > wires[node] {
					t.Errorf("node %d of %s is %d from the node above, its region %d, the wire is %d", node, what, d, to, wires[node])
				} else if d < wires[node] {
					slack++
				}
				if at[0] < r.LowU || at[0] > r.HighU || at[1] < r.LowV || at[1] > r.HighV {
					t.Errorf("node %d of %s is not in its region", node, what)
				}
				switch {
				case r.LowU == r.HighU:
				case at[0] == r.LowU:
					atLow++
				case at[0] == r.HighU:
					atHigh++
				default:
					inside++
				}
			}
		}
	})
	if atLow < 200 || atHigh < 200 || inside < 200 || slack < 200 {
		t.Errorf("too few places are at ends, %d and %d, or inside, %d, or have a wire that is too long, %d", atLow, atHigh, inside, slack)
	}
}

func TestPromise7ClocksByHand(t *testing.T) {
	for _, row := range []struct {
		pins   []impl.Point
		joins  [][]int64
		merges []impl.Merge // of joins
		wires  []int64
		places [][]int64
	}{
		{ // the document's examples
			at(0, 0, 2, 0), lists("0 1"),
			[]impl.Merge{later(4096, onePlace(4096, 4096))},
			numbers("4096 4096 0"), lists("0 0|8192 8192|4096 4096"),
		},
		{
			at(0, 0, 1, 1), lists("0 1"),
			[]impl.Merge{later(4096, region(4096, 4096, -4096, 4096))},
			numbers("4096 4096 0"), lists("0 0|8192 0|4096 -4096"), // the root is at LowV
		},
		{ // the same pins
			at(7, 7, 7, 7), lists("0 1"),
			[]impl.Merge{later(0, onePlace(57344, 0))},
			numbers("0 0 0"), lists("57344 0|57344 0|57344 0"),
		},
		{ // the last pin meets the region of both others, and its wire is longer than the distance
			at(0, 0, 1, 1, 1, 0), lists("0 1|2 3"),
			[]impl.Merge{later(4096, region(4096, 4096, -4096, 4096)), later(4096, region(4096, 4096, 0, 4096))},
			numbers("4096 4096 4096 0 0"), lists("0 0|8192 0|4096 4096|4096 0|4096 0"),
		},
		{ // halves of the distance, and their halves
			at(0, 0, 1, 0, 4, 0), lists("0 1|2 3"),
			[]impl.Merge{later(2048, onePlace(2048, 2048)), later(8192, onePlace(8192, 8192))},
			numbers("2048 2048 8192 6144 0"), lists("0 0|4096 4096|16384 16384|2048 2048|8192 8192"),
		},
		{ // two regions that lie across: the roots are at the ends of both
			at(0, 0, 1, 1, 9, 0, 10, 1), lists("0 1|2 3|4 5"),
			[]impl.Merge{
				later(4096, region(4096, 4096, -4096, 4096)),
				later(4096, region(40960, 40960, 32768, 40960)),
				later(22528, region(22528, 22528, 14336, 22528)),
			},
			numbers("4096 4096 4096 4096 18432 18432 0"),
			lists("0 0|8192 0|36864 36864|45056 36864|4096 4096|40960 32768|22528 14336"),
		},
	} {
		what := brief(row.pins, row.joins)
		merges, ok := impl.ClockMerges(row.pins, row.joins)
		same(t, "merges of "+what, results(merges[len(row.pins):], ok), results(row.merges, true))
		wires, ok := impl.ClockWires(row.pins, row.joins)
		same(t, "wires of "+what, results(wires, ok), results(row.wires, true))
		places, ok := impl.ClockPlaces(row.pins, row.joins)
		same(t, "places of "+what, results(places, ok), results(row.places, true))
	}
}

func TestPromise7ClocksFail(t *testing.T) {
	twelve := diceLeaves(rand.New(rand.NewSource(107)), 12, 100)
	for _, row := range []struct {
		pins  []impl.Point
		joins [][]int64
		ok    bool
	}{
		{twelve, chainJoins(12), true},
		{append(slices.Clone(twelve), twelve[0]), chainJoins(13), false}, // one pin more than MaxLeaves
		{at(0, 0, 9, 9), lists("0 1"), true},
		{nil, nil, false}, // no pins
		{nil, lists("0 1"), false},
		{at(0, 0), nil, false}, // one pin
		{at(0, 0), lists("0 1"), false},
		{at(0, 0, 9, 9), nil, false}, // joins of another number of pins
		{at(0, 0, 9, 9), lists("0 1|2 3"), false},
		{at(0, 0, 9, 9, 5, 5), lists("0 1"), false},
		{at(0, 0, 9, 9, 5, 5), lists("0 1|2 2"), false},
		{at(0, 0, 9, 9, 5, 5), lists("1 0|2 3"), false},
		{at(0, 0, 9, 9, 5, 5), lists("0 3|1 2"), false},
		{at(0, 0, 100, 0), lists("0 1"), false}, // points out of the grid
		{at(0, 0, 0, 100), lists("0 1"), false},
		{at(-1, 0, 0, 0), lists("0 1"), false},
		{at(0, -1, 0, 0), lists("0 1"), false},
		{at(0, 0, math.MaxInt64, math.MinInt64), lists("0 1"), false},
	} {
		what := brief(row.pins, row.joins)
		merges, ok := impl.ClockMerges(row.pins, row.joins)
		same(t, "merges of "+what, results(len(merges) > 0, ok), results(row.ok, row.ok))
		wires, ok := impl.ClockWires(row.pins, row.joins)
		same(t, "wires of "+what, results(len(wires) > 0, ok), results(row.ok, row.ok))
		places, ok := impl.ClockPlaces(row.pins, row.joins)
		same(t, "places of "+what, results(len(places) > 0, ok), results(row.ok, row.ok))
	}
}

func TestPromise7SkewOf(t *testing.T) {
	dice := rand.New(rand.NewSource(109))
	for i := range 2000 {
		count := 2 + i%11
		joins := diceJoins(dice, count)
		var wires []int64
		for range 2*count - 1 {
			wires = append(wires, dice.Int63n([]int64{3, 100, maxValue + 1}[i%3]))
		}
		wires[2*count-2] = 0
		sums := sumsToPins(count, joins, wires)
		skew, ok := impl.SkewOf(int64(count), joins, wires)
		same(t, "skew of "+brief(joins, wires), results(skew, ok), results(slices.Max(sums)-slices.Min(sums), true))
	}
}

func TestPromise7SkewByHand(t *testing.T) {
	chain := slices.Repeat([]int64{0}, 23)
	for node := 12; node < 22; node++ {
		chain[node] = maxValue
	}
	chain[0] = maxValue
	for _, row := range []struct {
		count int64
		joins [][]int64
		wires []int64
		skew  int64
		ok    bool
	}{
		{2, lists("0 1"), numbers("5 3 0"), 2, true},
		{2, lists("0 1"), numbers("3 5 0"), 2, true},
		{2, lists("0 1"), numbers("4 4 0"), 0, true},
		{2, lists("0 1"), []int64{0, maxValue, 0}, maxValue, true},
		{3, lists("0 1|2 3"), numbers("1 2 3 1 0"), 1, true},
		{3, lists("0 1|2 3"), numbers("1 2 9 1 0"), 7, true},
		{3, lists("1 2|0 3"), numbers("9 1 4 2 0"), 6, true},
		{4, lists("0 3|2 4|1 5"), numbers("1 2 4 8 16 32 0"), 54, true},
		{12, chainJoins(12), chain, 11 * maxValue, true}, // more than MaxValue
		{2, lists("0 1"), numbers("5 3"), 0, false},      // too few wires
		{2, lists("0 1"), numbers("5 3 0 0"), 0, false},  // too many
		{2, lists("0 1"), nil, 0, false},
		{2, lists("0 1"), numbers("-1 3 0"), 0, false}, // no numbers from 0 to MaxValue
		{2, lists("0 1"), numbers("3 -1 0"), 0, false},
		{2, lists("0 1"), numbers("3 3 -1"), 0, false},
		{3, lists("0 1|2 3"), numbers("1 2 3 -4 0"), 0, false},
		{2, lists("0 1"), []int64{maxValue + 1, 0, 0}, 0, false},
		{2, lists("0 1"), []int64{0, maxValue + 1, 0}, 0, false},
		{2, lists("0 1"), []int64{0, 0, maxValue + 1}, 0, false},
		{2, lists("0 1"), []int64{math.MinInt64, math.MaxInt64, 0}, 0, false},
		{2, lists("1 0"), numbers("5 3 0"), 0, false}, // no joins
		{3, lists("0 1|0 2"), numbers("1 2 3 1 0"), 0, false},
		{3, lists("0 1"), numbers("5 3 0"), 0, false},
		{2, lists("0 1|2 3"), numbers("1 2 3 1 0"), 0, false},
		{1, nil, numbers("0"), 0, false}, // too few and too many pins
		{0, nil, nil, 0, false},
		{13, chainJoins(13), slices.Repeat([]int64{0}, 25), 0, false},
		{-1, nil, nil, 0, false},
	} {
		skew, ok := impl.SkewOf(row.count, row.joins, row.wires)
		same(t, brief("skew of ", row.count, row.joins, row.wires), results(skew, ok), results(row.skew, row.ok))
	}
}

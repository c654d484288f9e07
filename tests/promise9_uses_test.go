package tests

import (
	"math"
	"math/rand"
	"slices"
	"testing"

	"loop.example/g01149/impl"
)

// checkChosen compares what is told of any list with a count over the points of
// all paths, and returns whether it is a choice.
func checkChosen(t *testing.T, g impl.Grid, nets []impl.Net, chosen []int64) bool {
	t.Helper()
	r := route(g, nets)
	is := r.isChoice(chosen)
	var use impl.Grid
	var overflow, fullest, total int64
	edges := false
	if is {
		use, overflow = r.useByRule(chosen), r.overflowByRule(chosen)
		if all := r.differences(chosen); len(all) > 0 {
			fullest, edges = slices.Max(all), true
		}
	}
	what := brief(chosen[:min(len(chosen), 7)], " for ", nets, " in ", g)
	got, ok := impl.ChosenUse(g, nets, chosen)
	same(t, "use of "+what, results(got, ok), results(use, is))
	n, ok := impl.OverflowOf(g, nets, chosen)
	same(t, "overflow of "+what, results(n, ok), results(overflow, is))
	n, ok = impl.FullestEdge(g, nets, chosen)
	same(t, "fullest edge of "+what, results(n, ok), results(fullest, edges))
	for _, list := range slices.Concat(got.Across, got.Up) {
		for _, n := range list {
			total += n
		}
	}
	if wires, ok := impl.WireTotal(g, nets); ok && is {
		same(t, "sum of all uses of "+what, total, wires)
	}
	return is
}

// checkChanged also changes a choice at each place, and makes it longer and
// shorter.
func checkChanged(t *testing.T, g impl.Grid, nets []impl.Net, chosen []int64) {
	t.Helper()
	sizes, _ := route(g, nets).sizes()
	for i, size := range sizes {
		changed := slices.Clone(chosen)
		for _, shape := range []int64{-1, 0, size - 1, size, math.MinInt64, math.MaxInt64, 1 << 32, -1 << 32} {
			changed[i] = shape
			same(t, brief("choice ", changed, " of ", nets), checkChosen(t, g, nets, changed), shape == 0 || shape == size-1)
		}
		checkChosen(t, g, nets, slices.Delete(changed, i, i+1))
	}
	checkChosen(t, g, nets, append(slices.Clone(chosen), 0))
	checkChosen(t, g, nets, append(slices.Clone(chosen), -1))
	checkChosen(t, g, nets, nil)
}

func TestPromise9Uses(t *testing.T) {
	over, none := 0, 0
	tinyRoutings(func(g impl.Grid, nets []impl.Net) {
		sizes, _ := route(g, nets).sizes()
		choicesOver(sizes, func(chosen []int64) {
			checkChosen(t, g, nets, chosen)
			if n, _ := impl.OverflowOf(g, nets, chosen); n > 0 {
				over++
			} else {
				none++
			}
		})
	})
	if over < 1000 || none < 1000 {
		t.Errorf("too few choices have an overflow, %d, or none, %d", over, none)
	}
}

func TestPromise9SomeUses(t *testing.T) {
	over, none, below := 0, 0, 0
	severalRoutings(1200, func(dice *rand.Rand, g impl.Grid, nets []impl.Net) {
		sizes, _ := route(g, nets).sizes()
		var chosen []int64
		for _, size := range sizes {
			chosen = append(chosen, dice.Int63n(size))
		}
		same(t, brief("choice ", chosen, " of ", nets), checkChosen(t, g, nets, chosen), true)
		if dice.Intn(4) == 0 {
			checkChanged(t, g, nets, chosen)
		}
		n, _ := impl.OverflowOf(g, nets, chosen)
		most, edges := impl.FullestEdge(g, nets, chosen)
		switch {
		case n > 0:
			over++
		case edges && most < 0:
			below++
		default:
			none++
		}
	})
	if over < 200 || none < 100 || below < 10 {
		t.Errorf("too few choices have an overflow, %d, or none, %d, or all edges below their room, %d", over, none, below)
	}
}

func TestPromise9UsesByHand(t *testing.T) {
	two := netsOf(0, 0, 1, 1, 0, 0, 1, 1)
	six := slices.Repeat(netsOf(0, 0, 2, 0), 6)
	for _, row := range []struct {
		g                 impl.Grid
		nets              []impl.Net
		chosen            string
		use               impl.Grid
		overflow, fullest int64
	}{
		{evenGrid(2, 2, 1), nil, "", gridOf("0|0", "0 0"), 0, -1}, // no nets
		{evenGrid(2, 2, 20), nil, "", gridOf("0|0", "0 0"), 0, -20},
		{evenGrid(2, 2, 0), nil, "", gridOf("0|0", "0 0"), 0, 0},
		{gridOf("3|4", "9 2"), nil, "", gridOf("0|0", "0 0"), 0, -2},
		{evenGrid(2, 2, 1), two, "0 0", gridOf("2|0", "0 2"), 2, 1},
		{evenGrid(2, 2, 1), two, "0 1", gridOf("1|1", "1 1"), 0, 0}, // an overflow of 0
		{evenGrid(2, 2, 1), two, "1 0", gridOf("1|1", "1 1"), 0, 0},
		{evenGrid(2, 2, 1), two, "1 1", gridOf("0|2", "2 0"), 2, 1},
		{evenGrid(2, 2, 0), two, "0 1", gridOf("1|1", "1 1"), 4, 1}, // edges without room
		{evenGrid(2, 2, 0), two, "0 0", gridOf("2|0", "0 2"), 4, 2},
		{gridOf("0|1", "1 0"), two, "0 0", gridOf("2|0", "0 2"), 4, 2},
		{gridOf("0|1", "1 0"), two, "1 1", gridOf("0|2", "2 0"), 2, 1},
		{gridOf("2|0", "0 0"), two, "0 0", gridOf("2|0", "0 2"), 2, 2},
		{evenGrid(2, 2, 20), two, "0 0", gridOf("2|0", "0 2"), 0, -18}, // less use than room
		{evenGrid(2, 2, 3), two, "0 0", gridOf("2|0", "0 2"), 0, -1},
		{evenGrid(3, 1, 20), six, "0 0 0 0 0 0", gridOf("6 6", ""), 0, -14},
		{evenGrid(3, 1, 0), six, "0 0 0 0 0 0", gridOf("6 6", ""), 12, 6},
		{evenGrid(3, 1, 6), six, "0 0 0 0 0 0", gridOf("6 6", ""), 0, 0},
		{gridOf("5 1", ""), six, "0 0 0 0 0 0", gridOf("6 6", ""), 6, 5},
		{evenGrid(4, 1, 1), netsOf(3, 0, 1, 0, 0, 0, 2, 0, 2, 0, 2, 0), "0 0 0", gridOf("1 2 1", ""), 1, 1},
		{evenGrid(1, 4, 1), netsOf(0, 3, 0, 1, 0, 0, 0, 2), "0 0", gridOf("|||", "1|2|1"), 1, 1},
		{evenGrid(3, 3, 1), netsOf(0, 2, 2, 0), "0", gridOf("0 1|0 0|1 0", "0 1 0|0 1 0"), 0, 0},
		{evenGrid(3, 3, 1), netsOf(0, 2, 2, 0), "1", gridOf("0 0|0 0|1 1", "0 0 1|0 0 1"), 0, 0},
		{evenGrid(3, 3, 1), netsOf(0, 2, 2, 0), "2", gridOf("0 0|1 1|0 0", "0 0 1|1 0 0"), 0, 0},
		{evenGrid(3, 3, 1), netsOf(0, 2, 2, 0), "3", gridOf("1 1|0 0|0 0", "1 0 0|1 0 0"), 0, 0},
		{evenGrid(2, 2, 20), netsOf(1, 1, 1, 1, 0, 1, 0, 1), "0 0", gridOf("0|0", "0 0"), 0, -20}, // cells alone
	} {
		chosen := numbers(row.chosen)
		what := brief(chosen, " for ", row.nets, " in ", row.g)
		same(t, what, checkChosen(t, row.g, row.nets, chosen), true)
		use, ok := impl.ChosenUse(row.g, row.nets, chosen)
		same(t, "use of "+what, results(use, ok), results(row.use, true))
		n, ok := impl.OverflowOf(row.g, row.nets, chosen)
		same(t, "overflow of "+what, results(n, ok), results(row.overflow, true))
		n, ok = impl.FullestEdge(row.g, row.nets, chosen)
		same(t, "fullest edge of "+what, results(n, ok), results(row.fullest, true))
	}
}

// TestPromise9NoEdges has a grid of one cell.
func TestPromise9NoEdges(t *testing.T) {
	for count := range 7 {
		nets := make([]impl.Net, count)
		chosen := make([]int64, count)
		use, ok := impl.ChosenUse(oneCell(), nets, chosen)
		same(t, brief("use of ", nets), results(use, ok), results(oneCell(), true))
		n, ok := impl.OverflowOf(oneCell(), nets, chosen)
		same(t, brief("overflow of ", nets), results(n, ok), results(0, true))
		n, ok = impl.FullestEdge(oneCell(), nets, chosen)
		same(t, brief("fullest edge of ", nets), results(n, ok), results(0, false))
		checkRouting(t, oneCell(), nets)
		checkChanged(t, oneCell(), nets, chosen)
	}
}

func TestPromise9NoChoices(t *testing.T) {
	g := evenGrid(4, 4, 1)
	nets := netsOf(0, 0, 3, 3, 2, 1, 2, 3, 3, 0, 1, 1) // six shapes, one, and three
	for _, row := range []struct {
		chosen []int64
		is     bool
	}{
		{numbers("0 0 0"), true},
		{numbers("5 0 2"), true},
		{numbers("6 0 2"), false}, // one beyond the last shape
		{numbers("5 1 2"), false},
		{numbers("5 0 3"), false},
		{numbers("-1 0 0"), false}, // below 0
		{numbers("0 -1 0"), false},
		{numbers("0 0 -1"), false},
		{nil, false}, // too few, and too many
		{numbers("0 0"), false},
		{numbers("0 0 0 0"), false},
		{make([]int64, 100000), false},
		{[]int64{math.MaxInt64, 0, 0}, false},
		{[]int64{0, 0, math.MinInt64}, false},
	} {
		same(t, brief("choice ", len(row.chosen)), checkChosen(t, g, nets, row.chosen), row.is)
	}
	same(t, "choice for no nets", checkChosen(t, g, nil, nil), true)
	same(t, "one number for no nets", checkChosen(t, g, nil, []int64{0}), false)
}

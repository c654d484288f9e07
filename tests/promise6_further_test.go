package tests

import (
	"fmt"
	"math/rand"
	"slices"
	"testing"

	"loop.example/g01149/impl"
)

func TestPromise6MedianPoint(t *testing.T) {
	for _, row := range []struct{ three, want []impl.Point }{
		{at(0, 0, 2, 0, 1, 2), at(1, 0)},
		{at(3, 9, 1, 7, 2, 8), at(2, 8)}, // one of them
		{at(5, 5, 5, 5, 0, 9), at(5, 5)}, // two are the same
		{at(0, 9, 5, 5, 5, 5), at(5, 5)},
		{at(4, 4, 4, 4, 4, 4), at(4, 4)},
		{at(0, 99, 99, 0, 50, 50), at(50, 50)},
		{at(0, 0, 99, 99, 99, 0), at(99, 0)}, // at the edge of the grid
		{at(1, 1, 1, 5, 9, 3), at(1, 3)},
	} {
		p, ok := impl.MedianPoint(row.three[0], row.three[1], row.three[2])
		same(t, fmt.Sprint("median of ", row.three), results(p, ok), results(row.want[0], true))
	}
	for _, points := range [][]impl.Point{square(3), at(0, 0, 99, 99, 99, 0, 50, 3, 7, 99, 8, 98)} {
		listsOver(points, 3, func(list []impl.Point) {
			across, up := []int64{}, []int64{}
			for _, p := range list {
				across, up = append(across, p.X), append(up, p.Y)
			}
			slices.Sort(across)
			slices.Sort(up)
			p, ok := impl.MedianPoint(list[0], list[1], list[2])
			same(t, fmt.Sprint("median of ", list), results(p, ok), results(impl.Point{X: across[1], Y: up[1]}, true))
		})
	}
}

// TestPromise6MedianOfPins joins three pins in their median point: no tree is
// shorter, and it is the best root, too.
func TestPromise6MedianOfPins(t *testing.T) {
	check := func(pins []impl.Point) {
		p, _ := impl.MedianPoint(pins[0], pins[1], pins[2])
		length, ok := impl.SteinerLength(pins)
		box, _ := impl.BoxBound(pins)
		root, sum, _ := impl.BestRoot(pins)
		same(t, "trees of "+brief(pins), results(length, ok, box, root, sum), results(sumFrom(pins, p), true, length, p, length))
	}
	tinyPins(4, 3, check)
	dice := rand.New(rand.NewSource(71))
	for range 500 {
		check(dicePins(dice, 3, 100, 100))
	}
}

func TestPromise6HananPoints(t *testing.T) {
	for _, row := range []struct{ pins, want []impl.Point }{
		{at(5, 7), at(5, 7)},
		{at(5, 7, 2, 8), at(2, 7, 2, 8, 5, 7, 5, 8)},
		{at(0, 99, 99, 0), at(0, 0, 0, 99, 99, 0, 99, 99)},
		{oneRow(3, 9, 2, 5), at(2, 3, 5, 3, 9, 3)}, // only the pins
		{turned(oneRow(3, 9, 2, 5)), at(3, 2, 3, 5, 3, 9)},
		{at(0, 0, 2, 2, 0, 2, 2, 0), at(0, 0, 0, 2, 2, 0, 2, 2)}, // all points are pins
		{at(0, 0, 2, 0, 1, 2), at(0, 0, 0, 2, 1, 0, 1, 2, 2, 0, 2, 2)},
		{at(1, 0, 0, 1, 2, 1, 1, 2), square(3)},
	} {
		list, ok := impl.HananPoints(row.pins)
		same(t, "points of "+brief(row.pins), results(list, ok), results(row.want, true))
	}
	most := 0
	severalPins(120, 7, func(_ *rand.Rand, pins []impl.Point) {
		list, ok := impl.HananPoints(pins)
		same(t, "points of "+brief(pins), results(list, ok), results(crossings(pins), true))
		most = max(most, len(list))
	})
	same(t, "most points", most, 49)
}

// TestPromise6AllSmallTrees tries all trees in small grids.
func TestPromise6AllSmallTrees(t *testing.T) {
	for _, g := range []smallGrid{{1, 1}, {5, 1}, {1, 7}, {2, 2}, {3, 3}, {4, 3}, {3, 5}} {
		for set, steps := range g.shortest() {
			pins := g.pointsOf(uint32(set))
			if len(pins) > 0 && len(pins) <= 7 {
				length, ok := impl.SteinerLength(shifted(pins, int64(set%96), 93))
				same(t, "shortest tree of "+brief(pins), results(length, ok), results(steps, true))
			}
		}
	}
	g := smallGrid{5, 4}
	shortest := g.shortest()
	dice := rand.New(rand.NewSource(73))
	for range 6000 {
		set := 0
		for range 2 + dice.Intn(6) {
			set |= 1 << dice.Intn(20)
		}
		pins := g.pointsOf(uint32(set))
		dice.Shuffle(len(pins), func(i, j int) { pins[i], pins[j] = pins[j], pins[i] })
		length, ok := impl.SteinerLength(pins)
		same(t, "shortest tree of "+brief(pins), results(length, ok), results(shortest[set], true))
	}
}

// checkLengths checks what the document promises of the lengths of trees.
func checkLengths(t *testing.T, pins []impl.Point) int64 {
	t.Helper()
	what := " of " + brief(pins)
	least, ok := impl.SteinerLength(pins)
	same(t, "shortest tree"+what, ok, true)
	_, spanning, _ := impl.SpanningTree(pins)
	box, _ := impl.BoxBound(pins)
	_, further, _ := impl.OneByOne(pins)
	_, steps, _ := impl.BendTree(pins)
	_, star, _ := impl.BestRoot(pins)
	if box > least || least > further || further > spanning || least > steps || steps > spanning || least > star {
		t.Errorf("lengths%s: box %d, shortest %d, one by one %d, bends %d, spanning %d, star %d", what, box, least, further, steps, spanning, star)
	}
	if 2*spanning > 3*least {
		t.Errorf("spanning tree%s: %d is more than half as long again as %d", what, spanning, least)
	}
	if len(pins) <= 3 && box != least {
		t.Errorf("shortest tree%s: %d, but the box has %d", what, least, box)
	}
	return least
}

func TestPromise6Lengths(t *testing.T) {
	for count := 1; count <= 4; count++ {
		tinyPins(3, count, func(pins []impl.Point) { checkLengths(t, pins) })
	}
	severalPins(700, 7, func(_ *rand.Rand, pins []impl.Point) { checkLengths(t, pins) })
}

// TestPromise6FurtherTrees tries all spanning trees with up to two points less
// than pins more, of pins that can be far apart.
func TestPromise6FurtherTrees(t *testing.T) {
	shorter := 0
	check := func(pins []impl.Point) {
		want := leastWithFurther(pins, len(pins)-2)
		length, ok := impl.SteinerLength(pins)
		same(t, "shortest tree of "+brief(pins), results(length, ok), results(want, true))
		if want < leastJoin(pins) {
			shorter++
		}
	}
	severalPins(150, 5, func(_ *rand.Rand, pins []impl.Point) { check(pins) })
	dice := rand.New(rand.NewSource(79))
	for range 60 {
		check(stretched(dice, dicePins(dice, 6, 4, 4)))
		check(stretched(dice, dicePins(dice, 7, 4, 4)))
		check(stretched(dice, dicePins(dice, 7, 5, 4)))
	}
	for range 8 {
		check(dicePins(dice, 6, 100, 100))
		check(stretched(dice, dicePins(dice, 7, 5, 5)))
	}
	if shorter < 150 {
		t.Errorf("too few have a shorter tree than a spanning tree: %d", shorter)
	}
}

// TestPromise6SevenFarPins tries all sets of up to five of 42 points.
func TestPromise6SevenFarPins(t *testing.T) {
	pins := at(14, 80, 93, 61, 2, 35, 77, 3, 40, 97, 55, 22, 31, 48)
	length, ok := impl.SteinerLength(pins)
	same(t, "shortest tree", results(length, ok), results(leastWithFurther(pins, 5), true))
}

func TestPromise6SteinerByHand(t *testing.T) {
	for _, row := range []struct {
		pins []impl.Point
		want int64
	}{
		{at(5, 7), 0},
		{at(99, 99), 0},
		{at(5, 7, 2, 8), 4},
		{at(0, 0, 99, 99), 198},
		{at(0, 0, 2, 0, 1, 2), 4},
		{at(0, 0, 2, 2, 0, 2, 2, 0), 6},
		{at(1, 0, 0, 1, 2, 1, 1, 2), 4}, // a spanning tree is half as long again
		{at(50, 0, 0, 50, 99, 50, 50, 99), 198},
		{at(0, 0, 0, 99, 99, 0, 99, 99), 297},
		{oneRow(3, 0, 99, 50, 49, 1, 98, 7), 99}, // seven pins in one row
		{turned(oneRow(3, 0, 99, 50, 49, 1, 98, 7)), 99},
		{snake(7), 6},
		{stairs(7), 6},
		{at(0, 0, 10, 0, 0, 4, 10, 4), 18},                 // two further points
		{at(0, 0, 4, 0, 2, 1, 2, 3, 0, 4, 4, 4), 12},       // two sides, and the middle between
		{at(0, 50, 99, 50, 50, 0, 50, 99, 49, 51), 199},    // the cross and a pin beside
		{at(1, 0, 3, 0, 0, 2, 4, 2, 1, 4, 3, 4, 2, 2), 12}, // seven pins
	} {
		length, ok := impl.SteinerLength(row.pins)
		same(t, "shortest tree of "+brief(row.pins), results(length, ok), results(row.want, true))
	}
}

// checkGain compares the gain of a point with the lengths of spanning trees.
func checkGain(t *testing.T, pins []impl.Point, p impl.Point) int64 {
	t.Helper()
	want := int64(0)
	if !slices.Contains(pins, p) {
		want = leastJoin(pins) - leastJoin(append(slices.Clone(pins), p))
	}
	gain, ok := impl.GainOf(pins, p)
	same(t, brief("gain of ", p, " for ", pins), results(gain, ok), results(want, true))
	return gain
}

func TestPromise6GainOf(t *testing.T) {
	more, none, less := 0, 0, 0
	check := func(pins []impl.Point, p impl.Point) {
		gain := checkGain(t, pins, p)
		switch {
		case gain > 0:
			more++
		case gain < 0:
			less++
		case !slices.Contains(pins, p):
			none++
		}
	}
	for count := 1; count <= 4; count++ {
		tinyPins(3, count, func(pins []impl.Point) {
			for _, p := range square(4) {
				check(pins, p)
			}
		})
	}
	severalPins(200, 19, func(dice *rand.Rand, pins []impl.Point) {
		for _, p := range append(crossings(pins), dicePins(dice, 3, 100, 100)...) {
			check(pins, p)
		}
	})
	if more < 1000 || none < 1000 || less < 1000 {
		t.Errorf("too few gains are greater than 0, %d, 0, %d, or less, %d", more, none, less)
	}
}

func TestPromise6GainByHand(t *testing.T) {
	for _, row := range []struct {
		pins []impl.Point
		p    impl.Point
		want int64
		ok   bool
	}{
		{at(0, 0, 2, 0, 1, 2), impl.Point{X: 1}, 1, true},
		{at(0, 0, 2, 0, 1, 2), impl.Point{X: 2}, 0, true}, // a pin
		{at(0, 0, 2, 0, 1, 2), impl.Point{X: 1, Y: 2}, 0, true},
		{at(0, 0, 2, 0, 1, 2), impl.Point{X: 1, Y: 1}, 0, true}, // no pin, and no gain
		{at(0, 0, 2, 0, 1, 2), impl.Point{Y: 1}, 0, true},
		{at(0, 0, 2, 0, 1, 2), impl.Point{X: 3}, -1, true},
		{at(0, 0, 2, 0, 1, 2), impl.Point{X: 99, Y: 99}, -195, true},
		{at(5, 7), impl.Point{X: 5, Y: 7}, 0, true},
		{at(5, 7), impl.Point{X: 5, Y: 8}, -1, true},
		{at(5, 7, 5, 9), impl.Point{X: 5, Y: 8}, 0, true},
		{at(1, 0, 0, 1, 2, 1, 1, 2), impl.Point{X: 1, Y: 1}, 2, true},
		{at(50, 0, 0, 50, 99, 50, 50, 99), impl.Point{X: 50, Y: 50}, 98, true},
		{snake(19), impl.Point{X: 19}, -1, true}, // MaxAll - 1 pins
		{snake(19), impl.Point{X: 3}, 0, true},
		{snake(20), impl.Point{X: 20}, 0, false}, // MaxAll pins
		{snake(20), impl.Point{X: 3}, 0, false},
		{snake(20), impl.Point{Y: 1}, 0, false},
	} {
		gain, ok := impl.GainOf(row.pins, row.p)
		same(t, brief("gain of ", row.p, " for ", row.pins), results(gain, ok), results(row.want, row.ok))
	}
}

// furtherByRule adds points as the document tells. The bool tells whether once
// several points have the same greatest gain.
func furtherByRule(pins []impl.Point) (further []impl.Point, length int64, several bool) {
	all := slices.Clone(pins)
	for len(all) < 20 {
		now := leastJoin(all)
		var best []impl.Point
		least := now
		for _, p := range crossings(pins) {
			if slices.Contains(all, p) {
				continue
			}
			if with := leastJoin(append(all[:len(all):len(all)], p)); with < least {
				best, least = []impl.Point{p}, with
			} else if with == least {
				best = append(best, p)
			}
		}
		if least == now {
			break
		}
		several = several || len(best) > 1
		all = append(all, best[0])
	}
	return all[len(pins):], leastJoin(all), several
}

func TestPromise6OneByOne(t *testing.T) {
	equal, most, longer := 0, 0, 0
	check := func(pins []impl.Point) {
		want, sum, several := furtherByRule(pins)
		further, length, ok := impl.OneByOne(pins)
		same(t, "further points of "+brief(pins), results(further, length, ok), results(want, sum, true))
		if several {
			equal++
		}
		most = max(most, len(further))
		if least, _ := impl.SteinerLength(pins); least < length {
			longer++
		}
	}
	for count := 1; count <= 4; count++ {
		tinyPins(3, count, check)
	}
	severalPins(500, 7, func(_ *rand.Rand, pins []impl.Point) { check(pins) })
	if equal < 100 || most < 4 || longer < 10 {
		t.Errorf("too few have several points with the same gain, %d, or are longer than a shortest tree, %d, or the most points are %d", equal, longer, most)
	}
}

func TestPromise6OneByOneByHand(t *testing.T) {
	for _, row := range []struct {
		pins, further []impl.Point
		length        int64
	}{
		{at(5, 7), at(), 0},
		{at(5, 7, 2, 8), at(), 4},
		{at(0, 0, 2, 0, 1, 2), at(1, 0), 4},
		{oneRow(3, 9, 2, 5), at(), 7},
		{turned(oneRow(3, 9, 2, 5)), at(), 7},
		{at(0, 0, 2, 2, 0, 2, 2, 0), at(), 6}, // all points are pins
		{at(1, 0, 0, 1, 2, 1, 1, 2), at(1, 1), 4},
		{at(0, 99, 99, 99, 50, 0), at(50, 99), 198},
		{snake(7), at(), 6},
		// As many further points as a search over many pins has found.
		{at(4, 19, 22, 20, 5, 10, 3, 9, 16, 12, 10, 26, 5, 5), at(5, 12, 10, 20, 16, 20, 5, 9, 5, 19), 49},
	} {
		further, length, ok := impl.OneByOne(row.pins)
		same(t, "further points of "+brief(row.pins), results(further, length, ok), results(row.further, row.length, true))
	}
}

package tests

import (
	"math/rand"
	"testing"

	"loop.example/g01149/impl"
)

func TestPromise6BendTree(t *testing.T) {
	several, fewer := 0, 0
	check := func(pins []impl.Point) {
		want, fewest, count := bendByHand(pins)
		choice, steps, ok := impl.BendTree(pins)
		same(t, "bends of "+brief(pins), results(choice, steps, ok), results(want, fewest, true))
		if count > 1 {
			several++
		}
		if fewest < leastJoin(pins) {
			fewer++
		}
	}
	for count := 1; count <= 4; count++ {
		tinyPins(3, count, check)
	}
	severalPins(150, 7, func(_ *rand.Rand, pins []impl.Point) { check(pins) })
	if several < 300 || fewer < 300 {
		t.Errorf("too few have several choices with as few steps, %d, or fewer steps than the spanning tree, %d", several, fewer)
	}
}

func TestPromise6BendsByHand(t *testing.T) {
	for _, row := range []struct {
		pins   []impl.Point
		choice string
		steps  int64
	}{
		{at(5, 7), "", 0}, // an empty choice
		{at(99, 99), "", 0},
		{at(5, 7, 2, 8), "x", 4}, // both choices use as many steps
		{at(0, 99, 99, 0), "x", 198},
		{at(5, 7, 5, 8), "x", 1}, // the same X: both are the same path
		{at(5, 7, 6, 7), "x", 1},
		{oneRow(3, 9, 2, 5), "xx", 7},
		{turned(oneRow(3, 9, 2, 5)), "xx", 7},
		{at(0, 0, 2, 0, 1, 2), "xx", 4},                // the document's example
		{at(0, 0, 0, 2, 2, 1), "xy", 4},                // with X and Y exchanged
		{at(1, 2, 0, 0, 2, 0), "yx", 4},                // from the lesser index: the same paths from the other end
		{at(2, 1, 0, 0, 0, 2), "xx", 4},                // and here
		{at(1, 0, 0, 1, 2, 1, 1, 2), "yyx", 4},         // all meet in the middle
		{at(0, 0, 3, 1, 3, 2), "xx", 5},                // no step in common
		{at(0, 0, 0, 9, 9, 0, 9, 9), "xxx", 27},        // along the sides
		{at(0, 50, 99, 50, 50, 0, 50, 99), "xxx", 198}, // all meet in the middle, from the pin 1 on
	} {
		choice, steps, ok := impl.BendTree(row.pins)
		same(t, "bends of "+brief(row.pins), results(choice, steps, ok), results(row.choice, row.steps, true))
	}
}

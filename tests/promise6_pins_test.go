package tests

import (
	"fmt"
	"math/rand"
	"slices"
	"testing"

	"loop.example/g01149/impl"
)

func TestPromise6Limits(t *testing.T) {
	same(t, "limits", results(impl.MaxEnds, impl.MaxAll), results(7, 20))
}

func TestPromise6ArePins(t *testing.T) {
	for _, row := range []struct {
		pins []impl.Point
		want bool
	}{
		{nil, false}, // no pins
		{at(), false},
		{at(0, 0), true},
		{at(99, 99), true},
		{at(3, 4, 4, 3), true},
		{at(3, 4, 3, 5), true},
		{at(3, 4, 3, 4), false}, // equal pins
		{at(3, 4, 0, 0, 3, 4), false},
		{at(0, 0, 3, 4, 3, 4), false},
		{at(100, 0), false}, // points out of the grid
		{at(0, 100), false},
		{at(-1, 0), false},
		{at(0, -1), false},
		{at(0, 0, 0, 100), false},
		{at(0, 0, 0, 100, 1, 1), false},
		{snake(20), true}, // MaxAll
		{snake(21), false},
		{snake(24), false},
		{append(snake(19), impl.Point{}), false},
		{append(snake(19), impl.Point{X: 99, Y: 99}), true},
	} {
		same(t, "ArePins "+brief(row.pins), impl.ArePins(row.pins), row.want)
	}
	points := at(0, 0, 99, 0, 0, 99, 99, 99, 100, 5, 5, -1)
	for count := range 5 {
		listsOver(points, count, func(list []impl.Point) {
			same(t, "ArePins "+brief(list), impl.ArePins(list), arePins(list))
		})
	}
	for _, p := range strangers() {
		same(t, "ArePins with "+brief(p), impl.ArePins(append(snake(5), p)), false)
	}
	severalPins(300, 21, func(dice *rand.Rand, pins []impl.Point) {
		same(t, "ArePins "+brief(pins), impl.ArePins(pins), len(pins) <= 20)
		twice := append(slices.Clone(pins), pins[dice.Intn(len(pins))])
		same(t, "ArePins "+brief(twice), impl.ArePins(twice), false)
	})
}

// checkFails checks that functions of pins fail, or only those which are told,
// and how.
func checkFails(t *testing.T, pins []impl.Point, all bool) {
	t.Helper()
	what := " of " + brief(len(pins), " ", pins)
	p := impl.Point{X: 1, Y: 1}
	if all {
		pairs, length, ok := impl.SpanningTree(pins)
		same(t, "SpanningTree"+what, results(pairs, length, ok), results([][]int64{}, 0, false))
		box, ok := impl.BoxBound(pins)
		same(t, "BoxBound"+what, results(box, ok), results(0, false))
		gain, ok := impl.GainOf(pins, p)
		same(t, "GainOf"+what, results(gain, ok), results(0, false))
		sum, ok := impl.StarLength(pins, p)
		same(t, "StarLength"+what, results(sum, ok), results(0, false))
		root, sum, ok := impl.BestRoot(pins)
		same(t, "BestRoot"+what, results(root, sum, ok), results(impl.Point{}, 0, false))
	}
	grid, ok := impl.HananPoints(pins)
	same(t, "HananPoints"+what, results(grid, ok), results(at(), false))
	least, ok := impl.SteinerLength(pins)
	same(t, "SteinerLength"+what, results(least, ok), results(0, false))
	more, length, ok := impl.OneByOne(pins)
	same(t, "OneByOne"+what, results(more, length, ok), results(at(), 0, false))
	choice, steps, ok := impl.BendTree(pins)
	same(t, "BendTree"+what, results(choice, steps, ok), results("", 0, false))
}

func TestPromise6NoPins(t *testing.T) {
	lists := [][]impl.Point{nil, at(), at(3, 4, 3, 4), at(3, 4, 0, 0, 3, 4), at(1, 1, 1, 1), at(1, 1, 2, 2, 2, 2),
		snake(21), stairs(21), snake(24), snake(100), append(snake(19), impl.Point{}), repeated(impl.Point{X: 1, Y: 1}, 21)}
	for _, p := range strangers() {
		lists = append(lists, []impl.Point{p}, append(snake(6), p), append([]impl.Point{p}, snake(6)...), append(snake(19), p))
	}
	for _, list := range lists {
		checkFails(t, list, true)
	}
}

// TestPromise6ManyPins has more pins than MaxEnds, at most MaxAll of them: only
// the functions that can take them succeed.
func TestPromise6ManyPins(t *testing.T) {
	for count := int64(8); count <= 20; count++ {
		for _, pins := range [][]impl.Point{snake(count), stairs(count), turned(snake(count)), square(100)[:count]} {
			checkFails(t, pins, false)
			_, _, one := impl.SpanningTree(pins)
			_, two := impl.BoxBound(pins)
			_, three := impl.GainOf(pins, impl.Point{X: 60, Y: 60})
			_, four := impl.StarLength(pins, impl.Point{X: 60, Y: 60})
			_, _, five := impl.BestRoot(pins)
			same(t, brief(count, " pins"), results(one, two, three, four, five), results(true, true, count < 20, true, true))
		}
	}
	for _, pins := range [][]impl.Point{snake(7), stairs(7), turned(snake(7)), square(100)[:7]} { // MaxEnds
		_, one := impl.HananPoints(pins)
		_, two := impl.SteinerLength(pins)
		_, _, three := impl.OneByOne(pins)
		_, _, four := impl.BendTree(pins)
		same(t, brief(pins), results(one, two, three, four), results(true, true, true, true))
	}
}

// TestPromise6Points has points at the edge of the grid, and outside of it.
func TestPromise6Points(t *testing.T) {
	pins := at(0, 0, 99, 99, 3, 4)
	for _, p := range at(0, 0, 99, 0, 0, 99, 99, 99, 0, 50, 50, 0, 99, 50, 50, 99) {
		sum, ok := impl.StarLength(pins, p)
		same(t, brief("star from ", p), results(sum, ok), results(far(pins[0], p)+far(pins[1], p)+far(pins[2], p), true))
		_, ok = impl.GainOf(pins, p)
		same(t, brief("gain of ", p), ok, true)
		median, ok := impl.MedianPoint(p, p, pins[2])
		same(t, brief("median of ", p), results(median, ok), results(p, true))
	}
	for _, p := range strangers() {
		sum, ok := impl.StarLength(pins, p)
		same(t, brief("star from ", p), results(sum, ok), results(0, false))
		gain, ok := impl.GainOf(pins, p)
		same(t, brief("gain of ", p), results(gain, ok), results(0, false))
		for i := range pins {
			three := slices.Clone(pins)
			three[i] = p
			median, ok := impl.MedianPoint(three[0], three[1], three[2])
			same(t, fmt.Sprint("median of ", three), results(median, ok), results(impl.Point{}, false))
		}
	}
}

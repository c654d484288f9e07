package tests

import (
	"fmt"
	"math"
	"slices"
	"testing"

	"loop.example/g01149/impl"
)

// strangePins has lists of pins, of points that are no pins, and of pins that
// are too many for some functions.
func strangePins() [][]impl.Point {
	lists := append(strangeLists(), at(0, 0, 2, 0, 1, 2), at(0, 0, 2, 2, 0, 2, 2, 0), at(1, 0, 0, 1, 2, 1, 1, 2),
		at(0, 0, 0, 99, 99, 0, 99, 99), at(0, 99, 99, 0, 50, 50, 0, 0, 99, 99, 49, 51, 1, 98),
		oneRow(7, 9, 0, 99, 5, 4, 50, 20), turned(oneRow(0, 9, 0, 99, 5, 4, 50, 20)),
		at(0, 0, 1, 1, 0, 0), at(99, 99, 99, 99), slices.Repeat(at(1, 2, 3, 4), 10), slices.Repeat(at(1, 2, 3, 4), 50000))
	for _, count := range []int64{6, 7, 8, 18, 19, 20, 21} {
		lists = append(lists, snake(count), stairs(count), square(100)[:count], turned(square(100))[5000:5000+count])
	}
	for _, p := range strangers() {
		lists = append(lists, append(snake(6), p), append([]impl.Point{p}, snake(6)...), append(snake(18), p), append(snake(19), p))
	}
	return lists
}

func callsOfPins(pins []impl.Point) []call {
	var calls []call
	g := guard(pins, impl.Point{X: 41, Y: 42})
	add := func(name string, reports bool, run func() []any) {
		calls = append(calls, call{name + " of " + brief(pins), reports, run, g.changed})
	}
	add("ArePins", true, func() []any { return results(impl.ArePins(g.list)) })
	add("SpanningTree", false, func() []any { a, b, ok := impl.SpanningTree(g.list); return results(a, b, ok) })
	add("BoxBound", false, func() []any { a, ok := impl.BoxBound(g.list); return results(a, ok) })
	add("HananPoints", false, func() []any { a, ok := impl.HananPoints(g.list); return results(a, ok) })
	add("SteinerLength", false, func() []any { a, ok := impl.SteinerLength(g.list); return results(a, ok) })
	add("OneByOne", false, func() []any { a, b, ok := impl.OneByOne(g.list); return results(a, b, ok) })
	add("BestRoot", false, func() []any { a, b, ok := impl.BestRoot(g.list); return results(a, b, ok) })
	add("BendTree", false, func() []any { a, b, ok := impl.BendTree(g.list); return results(a, b, ok) })
	for _, p := range append(strangers(), at(0, 0, 0, 99, 99, 0, 99, 99, 1, 1, 50, 51)...) {
		add(fmt.Sprint("GainOf ", p), false, func() []any { a, ok := impl.GainOf(g.list, p); return results(a, ok) })
		add(fmt.Sprint("StarLength from ", p), false, func() []any { a, ok := impl.StarLength(g.list, p); return results(a, ok) })
	}
	return calls
}

func medianCalls() []call {
	var calls []call
	listsOver(append(strangers(), at(0, 0, 99, 99, 5, 5, 0, 99)...), 3, func(list []impl.Point) {
		a, b, c := list[0], list[1], list[2]
		run := func() []any { p, ok := impl.MedianPoint(a, b, c); return results(p, ok) }
		calls = append(calls, call{fmt.Sprint("MedianPoint ", list), false, run, unchangeable})
	})
	return calls
}

func TestPromise1Trees(t *testing.T) {
	calls := medianCalls()
	for _, pins := range strangePins() {
		calls = append(calls, callsOfPins(pins)...)
	}
	checkCalls(t, calls)
}

// TestPromise1TreesInParts takes pins out of the middle of a list: what lies
// before and behind them is not changed either.
func TestPromise1TreesInParts(t *testing.T) {
	list := at(9, 9, 1, 0, 0, 1, 2, 1, 1, 2, 8, 8, 7, 7)
	pins := list[1:5]
	more, length, ok := impl.OneByOne(pins)
	same(t, "one by one", results(more, length, ok), results(at(1, 1), 4, true))
	gain, ok := impl.GainOf(pins, impl.Point{X: 1, Y: 1})
	same(t, "gain", results(gain, ok), results(2, true))
	grid, ok := impl.HananPoints(pins)
	same(t, "grid", results(grid, ok), results(square(3), true))
	same(t, "list", list, at(9, 9, 1, 0, 0, 1, 2, 1, 1, 2, 8, 8, 7, 7))
	for i := range more[:cap(more)] {
		more[:cap(more)][i] = impl.Point{X: math.MinInt64}
	}
	again, length, ok := impl.OneByOne(pins)
	same(t, "again", results(again, length, ok), results(at(1, 1), 4, true))
}

// TestPromise1TreesSeveral calls functions from several goroutines, some of
// which fail.
func TestPromise1TreesSeveral(t *testing.T) {
	pins := at(1, 0, 0, 1, 2, 1, 1, 2)
	all := make(chan string)
	for range 8 {
		go func() {
			pairs, _, _ := impl.SpanningTree(pins)
			length, _ := impl.SteinerLength(pins)
			_, _, wrong := impl.OneByOne(append(slices.Clone(pins), pins[0]))
			choice, steps, _ := impl.BendTree(pins)
			all <- fmt.Sprint(pairs, length, wrong, choice, steps)
		}()
	}
	for range 8 {
		same(t, "several", <-all, "[[0 1] [0 2] [0 3]] 4 falseyyx4")
	}
	same(t, "pins", pins, at(1, 0, 0, 1, 2, 1, 1, 2))
}

package tests

import (
	"fmt"
	"math"
	"slices"
	"testing"

	"loop.example/g01149/impl"
)

func strangeRows() [][]int64 {
	return [][]int64{
		nil, {0}, {99}, {-1}, {100}, {2, 3, 4}, {0, 1, 2}, {0, 50, 99}, {1, 2, 2}, {2, 1, 0}, {97, 98, 100}, {-1, 0, 1},
		counting(0, 20), counting(80, 20), counting(0, 21), counting(81, 20), make([]int64, 20), make([]int64, 1000),
		{math.MinInt64}, {math.MaxInt64}, {math.MinInt64, 0, math.MaxInt64}, {math.MaxInt64, 0, math.MinInt64},
	}
}

func strangeCounts() []int64 {
	return []int64{0, 1, 2, 3, 19, 20, 21, -1, math.MinInt64, math.MaxInt64}
}

func riverCalls() []call {
	var calls []call
	for _, row := range strangeRows() {
		calls = append(calls, callsOfRows(row, row)...)
		for _, other := range [][]int64{nil, {99}, {2, 3, 4}, {0, 50, 99}, counting(80, 20)} {
			calls = append(calls, callsOfRows(row, other)...)
			calls = append(calls, callsOfRows(other, row)...)
		}
	}
	return calls
}

func callsOfRows(top, bottom []int64) []call {
	var calls []call
	up, low := guard(top, 43), guard(bottom, 44)
	changed := func() bool { return up.changed() || low.changed() }
	add := func(name string, reports bool, run func() []any) {
		calls = append(calls, call{name + " of " + brief(top, bottom), reports, run, changed})
	}
	add("ValidRiver", true, func() []any { return results(impl.ValidRiver(up.list, low.list)) })
	add("LeastTracks", false, func() []any { a, ok := impl.LeastTracks(up.list, low.list); return results(a, ok) })
	add("BestShift", false, func() []any { a, b, ok := impl.BestShift(up.list, low.list); return results(a, b, ok) })
	for _, n := range strangeCounts() {
		tracks := fmt.Sprint(" in ", n)
		add("FitsRiver"+tracks, true, func() []any { return results(impl.FitsRiver(up.list, low.list, n)) })
		add("RiverLength"+tracks, false, func() []any { a, ok := impl.RiverLength(up.list, low.list, n); return results(a, ok) })
		add("RiverBends"+tracks, false, func() []any { a, ok := impl.RiverBends(up.list, low.list, n); return results(a, ok) })
		add("TightPins"+tracks, false, func() []any { a, b, ok := impl.TightPins(up.list, low.list, n); return results(a, b, ok) })
		add("ShiftRange"+tracks, false, func() []any { a, b, ok := impl.ShiftRange(up.list, low.list, n); return results(a, b, ok) })
		for _, wire := range strangeCounts() {
			add(fmt.Sprint("RiverWire ", wire, tracks), false, func() []any { a, ok := impl.RiverWire(up.list, low.list, n, wire); return results(a, ok) })
		}
	}
	return calls
}

// wireCalls lays all strange lists beside each other, and each one alone.
func wireCalls() []call {
	var calls []call
	add := func(lists ...[]impl.Point) {
		wires, changed := guardLists(lists, impl.Point{X: 41, Y: 42})
		calls = append(calls, call{"AreApart of " + brief(lists), true, func() []any { return results(impl.AreApart(wires)) }, changed})
	}
	add()
	add(slices.Repeat([][]impl.Point{at(1, 1)}, 20)...)
	add(slices.Repeat([][]impl.Point{at(1, 1)}, 10000)...)
	add(strangeLists()...)
	for _, list := range strangeLists() {
		if len(list) > 1000 {
			list = list[:1000]
		}
		add(list)
		add(at(0, 1, 2, 1, 2, 0), list)
	}
	return calls
}

func TestPromise1Rivers(t *testing.T) {
	checkCalls(t, slices.Concat(riverCalls(), wireCalls()))
}

// TestPromise1RiversOneRow has the same memory for both rows.
func TestPromise1RiversOneRow(t *testing.T) {
	row := []int64{3, 5, 9}
	corners, ok := impl.RiverWire(row, row, 4, 1)
	same(t, "wire", results(corners, ok), results(at(5, 0, 5, 5), true))
	shift, tracks, ok := impl.BestShift(row[:2], row[1:])
	same(t, "shift", results(shift, tracks, ok), results(1, 1, true))
	same(t, "row", row, []int64{3, 5, 9})
}

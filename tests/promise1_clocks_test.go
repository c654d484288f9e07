package tests

import (
	"fmt"
	"math"
	"math/rand"
	"slices"
	"testing"

	"loop.example/g01149/impl"
)

func strangeRegions() []impl.Region {
	list := append(wrongRegions(), impl.Region{}, onePlace(7, -7), region(1, 2, 3, 4), region(0, 9, 0, 9), region(9, 12, -3, 0), region(10, 10, 20, 20),
		region(-maxValue, maxValue, -maxValue, maxValue), onePlace(maxValue, maxValue), onePlace(-maxValue, maxValue))
	for _, n := range []int64{math.MinInt64, math.MaxInt64} {
		list = append(list, onePlace(n, n), onePlace(n, 0), onePlace(0, n), region(n, 0, n, 0), region(0, n, 0, n), region(n, -1-n, -1-n, n))
	}
	return list
}

func regionCalls() []call {
	var calls []call
	add := func(name string, run func() []any) { calls = append(calls, call{name, false, run, unchangeable}) }
	delays := append(strangeNumbers(), 2, 3, maxValue-1)
	for i, r := range strangeRegions() {
		what := fmt.Sprint(" of ", r)
		calls = append(calls, call{"ValidRegion" + what, true, func() []any { return results(impl.ValidRegion(r)) }, unchangeable})
		for _, by := range delays {
			add(fmt.Sprint("GrowRegion", what, " by ", by), func() []any { a, ok := impl.GrowRegion(r, by); return results(a, ok) })
		}
		for j, s := range strangeRegions() {
			pair := fmt.Sprint(what, s)
			add("MeetRegions"+pair, func() []any { a, ok := impl.MeetRegions(r, s); return results(a, ok) })
			add("FarRegions"+pair, func() []any { a, ok := impl.FarRegions(r, s); return results(a, ok) })
			for k := range delays {
				a, b := later(delays[k], r), later(delays[(i+j+k)%len(delays)], s)
				add(fmt.Sprint("MergePair of ", a, b), func() []any { m, x, y, ok := impl.MergePair(a, b); return results(m, x, y, ok) })
			}
		}
	}
	for _, p := range append(strangers(), at(0, 0, 0, 99, 99, 0, 99, 99, 3, 1)...) {
		add(fmt.Sprint("LeafRegion of ", p), func() []any { a, ok := impl.LeafRegion(p); return results(a, ok) })
	}
	return calls
}

func strangeJoins() [][][]int64 {
	all := [][][]int64{
		nil, {}, {nil}, {{}, {}}, {nil, {0, 1}}, lists("0 1"), lists("1 0"), lists("0 0"), lists("0"), lists("0 1 2"), lists("-1 0"), lists("0 2"),
		lists("0 1|2 3"), lists("0 2|1 3"), lists("0 3|1 2"), lists("0 1|0 2"), lists("0 1|2 3|4 5"), lists("0 1|2 3|4 5|6 7"), lists("0 1|2 3|4 4"),
		{{0, 63}}, {{0, 64}}, {{63, 64}}, {{-64, -63}}, {{math.MinInt64, 0}}, {{0, math.MaxInt64}}, {{math.MaxInt64, math.MinInt64}}, {{math.MinInt64, math.MaxInt64}},
		{{0, 1}, {2, math.MaxInt64}}, {{0, 1}, {math.MinInt64, 2}},
		chainJoins(5), chainJoins(6), chainJoins(11), chainJoins(12), chainJoins(13), chainJoins(24), chainJoins(70),
		slices.Repeat(lists("0 1"), 11), make([][]int64, 11),
	}
	dice := rand.New(rand.NewSource(127))
	for count := 2; count <= 12; count++ {
		all = append(all, diceJoins(dice, count))
	}
	return all
}

func hugeJoins() [][][]int64 {
	return [][][]int64{{counting(0, 100000)}, slices.Repeat(lists("0 1"), 10000), slices.Repeat([][]int64{nil}, 10000)}
}

func strangeClocks() [][]impl.Point {
	lists := append(strangeLists(), repeated(impl.Point{X: 99, Y: 99}, 12), repeated(impl.Point{X: 99, Y: 99}, 13))
	for _, count := range []int64{2, 3, 4, 5, 6, 11, 12, 13} {
		lists = append(lists, snake(count), stairs(count), turned(square(100))[5000:5000+count])
	}
	for _, p := range strangers() {
		lists = append(lists, append(snake(4), p), append(snake(11), p))
	}
	return lists
}

func callsOfClock(pins []impl.Point, severalJoins [][][]int64) []call {
	var calls []call
	g := guard(pins, impl.Point{X: 41, Y: 42})
	of := " of " + brief(pins)
	add := func(name string, changed func() bool, run func() []any) {
		calls = append(calls, call{name + of, false, run, func() bool { return g.changed() || changed() }})
	}
	add("NearestJoins", unchangeable, func() []any { a, ok := impl.NearestJoins(g.list); return results(a, ok) })
	add("BestJoins", unchangeable, func() []any { a, b, ok := impl.BestJoins(g.list); return results(a, b, ok) })
	for _, given := range severalJoins {
		joins, changed := guardLists(given, 45)
		by := " by " + brief(given[:min(len(given), 12)])
		add("ClockMerges"+by, changed, func() []any { a, ok := impl.ClockMerges(g.list, joins); return results(a, ok) })
		add("ClockWires"+by, changed, func() []any { a, ok := impl.ClockWires(g.list, joins); return results(a, ok) })
		add("ClockPlaces"+by, changed, func() []any { a, ok := impl.ClockPlaces(g.list, joins); return results(a, ok) })
	}
	return calls
}

func skewCalls(severalJoins [][][]int64, counts []int64) []call {
	var calls []call
	wires := [][]int64{nil, {}, {0}, {5, 3, 0}, {5, 3}, {5, 3, 0, 0}, {5, -3, 0}, {1, 2, 3, 4, 0}, {math.MinInt64, math.MaxInt64, 0}, {maxValue, 0, 0}, {maxValue + 1, 0, 0},
		slices.Repeat([]int64{maxValue}, 23), slices.Repeat([]int64{7}, 25), make([]int64, 1000)}
	for _, given := range severalJoins {
		for _, count := range counts {
			joins, changed := guardLists(given, 45)
			what := fmt.Sprint(" of ", count, " by ", brief(given[:min(len(given), 12)]))
			calls = append(calls, call{"IsJoins" + what, true, func() []any { return results(impl.IsJoins(count, joins)) }, changed})
			for _, list := range wires {
				w := guard(list, 46)
				run := func() []any { a, ok := impl.SkewOf(count, joins, w.list); return results(a, ok) }
				calls = append(calls, call{"SkewOf" + what + brief(list), false, run, func() bool { return changed() || w.changed() }})
			}
		}
	}
	return calls
}

func TestPromise1Regions(t *testing.T) { checkCalls(t, regionCalls()) }

func TestPromise1Skews(t *testing.T) {
	counts := append(counting(-1, 16), 23, 24, 63, 64, 65, math.MinInt64, math.MaxInt64, math.MaxInt64/2+1, math.MaxInt64/2+2)
	checkCalls(t, skewCalls(strangeJoins(), counts))
	checkCalls(t, skewCalls(hugeJoins(), []int64{2, 12, 10001}))
}

func TestPromise1Clocks(t *testing.T) {
	for _, pins := range strangeClocks() {
		checkCalls(t, callsOfClock(pins, strangeJoins()))
	}
	for _, pins := range [][]impl.Point{nil, snake(2), snake(12)} {
		checkCalls(t, callsOfClock(pins, hugeJoins()))
	}
}

// TestPromise1ClocksInParts takes pins and joins out of the middle of lists:
// what lies before and behind them is not changed either.
func TestPromise1ClocksInParts(t *testing.T) {
	list := at(9, 9, 0, 0, 9, 0, 1, 0, 8, 8, 7, 7)
	nodes := []int64{50, 0, 2, 1, 3, 60}
	all := [][]int64{nodes[:1], nodes[1:3], nodes[3:5], nodes[5:]}
	pins, joins := list[1:4], all[1:3]
	wires, ok := impl.ClockWires(pins, joins)
	same(t, "wires", results(wires, ok), results(numbers("2048 18432 2048 16384 0"), true))
	nearest, ok := impl.NearestJoins(pins)
	same(t, "nearest", results(nearest, ok), results(joins, true))
	best, sum, ok := impl.BestJoins(pins)
	same(t, "best", results(best, sum, ok), results(joins, 38912, true))
	for _, found := range [][][]int64{nearest, best} {
		for _, join := range found {
			join[0], join[1] = -7, -7
		}
	}
	best, sum, ok = impl.BestJoins(pins)
	same(t, "best again", results(best, sum, ok), results(joins, 38912, true))
	same(t, "list", list, at(9, 9, 0, 0, 9, 0, 1, 0, 8, 8, 7, 7))
	same(t, "nodes", results(nodes, all), results(numbers("50 0 2 1 3 60"), lists("50|0 2|1 3|60")))
}

// TestPromise1ClocksSeveral calls functions from several goroutines, some of
// which fail.
func TestPromise1ClocksSeveral(t *testing.T) {
	pins, joins := at(0, 0, 9, 0, 1, 0), lists("0 2|1 3")
	all := make(chan string)
	for range 8 {
		go func() {
			wires, _ := impl.ClockWires(pins, joins)
			nearest, _ := impl.NearestJoins(pins)
			best, sum, _ := impl.BestJoins(pins)
			_, wrong := impl.ClockPlaces(pins[:2], joins)
			all <- fmt.Sprint(wires, nearest, best, sum, wrong)
		}()
	}
	for range 8 {
		same(t, "several", <-all, "[2048 18432 2048 16384 0] [[0 2] [1 3]] [[0 2] [1 3]] 38912 false")
	}
	same(t, "pins", results(pins, joins), results(at(0, 0, 9, 0, 1, 0), lists("0 2|1 3")))
}

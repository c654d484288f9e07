package tests

import (
	"fmt"
	"math"
	"math/rand"
	"slices"
	"testing"

	"loop.example/g01149/impl"
)

// strangePresses has presses, and others that are not valid.
func strangePresses() []impl.Press {
	all := []impl.Press{
		{}, {Rules: []impl.Rule{}}, press(1, ""), press(1, "0 1 0"), press(1, "0 0 0"), press(2, ""), press(2, "0 1 3"), press(2, "0 1 3|1 0 -2"), press(2, "0 1 3|1 0 -3"),
		press(8, "0 1 3|1 2 4|2 0 -6|0 2 9"), press(9, "0 1 3|1 2 4|2 0 -6|0 2 9"), press(2, "0 0 1"), press(2, "0 2 1"), press(2, "2 0 1"), press(2, "-1 0 1"), press(2, "0 -1 1"),
		press(2, "0 1 1000"), press(2, "0 1 1001"), press(2, "0 1 -1000"), press(2, "0 1 -1001"), chain(16, 1000), chain(17, 1000), chain(8, 1000), chain(16, -1000),
		{Parts: 16, Rules: rulesInRow(16, 40, 1)}, {Parts: 16, Rules: rulesInRow(16, 40, 0)}, {Parts: 16, Rules: rulesInRow(16, 41, 0)}, {Parts: 8, Rules: rulesInRow(8, 40, 1000)},
		{Parts: 8, Rules: rulesInRow(8, 40, -1000)}, {Parts: 2, Rules: rulesInRow(2, 40, 0)}, {Parts: 16, Rules: rulesInRow(2, 100000, 1)}, {Parts: 16, Rules: make([]impl.Rule, 100000)},
	}
	for _, n := range []int64{math.MinInt64, math.MaxInt64, -1, 16, 17, 63, 64, 1 << 32} {
		all = append(all, impl.Press{Parts: n}, impl.Press{Parts: n, Rules: []impl.Rule{{From: n - 1}}}, impl.Press{Parts: 2, Rules: []impl.Rule{{From: n, To: 1}}},
			impl.Press{Parts: 2, Rules: []impl.Rule{{From: 1, To: n}}}, impl.Press{Parts: 2, Rules: []impl.Rule{{From: 1, Apart: n}}}, impl.Press{Parts: 2, Rules: []impl.Rule{{To: 1, Apart: 5}, {From: n, To: n, Apart: n}}})
	}
	severalPresses(64, func(_ *rand.Rand, p impl.Press) { all = append(all, p) })
	return all
}

func strangePlaces() [][]int64 {
	all := [][]int64{
		nil, {}, {0}, {1}, {-1}, {16000}, {16001}, {0, 3}, {3, 0}, {0, 1000}, {15000, 16000}, {16000, 16001}, {0, 16000}, {-1, 5}, {5, -1},
		{math.MinInt64, 0}, {0, math.MinInt64}, {math.MaxInt64, 0}, {0, math.MaxInt64}, {math.MinInt64, math.MaxInt64}, {math.MaxInt64, math.MinInt64}, {0, 1 << 32}, make([]int64, 100000),
	}
	for parts := int64(3); parts <= 17; parts++ {
		all = append(all, make([]int64, parts), counting(5, parts))
	}
	return all
}

func strangeRules() []impl.Rule {
	all := press(16, "0 1 0|0 1 3|1 0 -3|1 0 -2|0 1 1000|0 1 1001|1 0 -1000|1 0 -1001|0 0 1|1 1 -1|0 15 1|15 0 1|0 16 1|-1 0 1").Rules
	for _, n := range []int64{math.MinInt64, math.MaxInt64, 1 << 32} {
		all = append(all, impl.Rule{From: n, To: 1}, impl.Rule{To: n}, impl.Rule{From: n, To: n}, impl.Rule{To: 1, Apart: n})
	}
	return all
}

func strangeWidths() []int64 {
	return []int64{math.MinInt64, -1, 0, 1, 2, 3, 4, 5, 999, 1000, 7000, 14999, 15000, 15001, 15999, 16000, 16001, 1 << 32, math.MaxInt64}
}

func guardPress(given impl.Press) (impl.Press, func() bool) {
	rules := guard(given.Rules, impl.Rule{From: 61, To: 62, Apart: 63})
	return impl.Press{Parts: given.Parts, Rules: rules.list}, rules.changed
}

func callsOfPress(given impl.Press) []call {
	p, changed := guardPress(given)
	of := " of " + brief(given.Parts, " ", len(given.Rules), given.Rules[:min(9, len(given.Rules))])
	var calls []call
	add := func(name string, reports bool, run func() []any) {
		calls = append(calls, call{name + of, reports, run, changed})
	}
	add("ValidPress", true, func() []any { return results(impl.ValidPress(p)) })
	add("LeastPlaces", false, func() []any { a, ok := impl.LeastPlaces(p); return results(a, ok) })
	add("WidthOf", false, func() []any { a, ok := impl.WidthOf(p); return results(a, ok) })
	add("RisingRing", false, func() []any { a, ok := impl.RisingRing(p); return results(a, ok) })
	add("CriticalPath", false, func() []any { a, ok := impl.CriticalPath(p); return results(a, ok) })
	for _, width := range strangeWidths() {
		add(fmt.Sprint("LatestPlaces in ", width), false, func() []any { a, ok := impl.LatestPlaces(p, width); return results(a, ok) })
		add(fmt.Sprint("FreedomOf in ", width), false, func() []any { a, ok := impl.FreedomOf(p, width); return results(a, ok) })
	}
	for _, r := range strangeRules() {
		add(fmt.Sprint("AddRule ", r), false, func() []any { a, b, ok := impl.AddRule(p, r); return results(a, b, ok) })
	}
	least, _ := impl.LeastPlaces(given)
	for _, list := range append(strangePlaces(), least) {
		places := guard(list, 64)
		by := " by " + brief(len(list), list[:min(len(list), 16)])
		either := func() bool { return changed() || places.changed() }
		calls = append(calls, call{"IsPlaced" + of + by, true, func() []any { return results(impl.IsPlaced(p, places.list)) }, either})
		calls = append(calls, call{"TightRules" + of + by, false, func() []any { a, ok := impl.TightRules(p, places.list); return results(a, ok) }, either})
	}
	return calls
}

func callsOfShapes(given []impl.Shape) []call {
	list := guard(given, impl.Shape{X: 65, Y: 66, Width: 67, Height: 68})
	of := " of " + brief(len(given), given[:min(12, len(given))])
	calls := []call{{"AreShapes" + of, true, func() []any { return results(impl.AreShapes(list.list)) }, list.changed}}
	for _, apart := range []int64{math.MinInt64, -1, 0, 1, 7, 500, 999, 1000, 1001, 1 << 32, math.MaxInt64} {
		by := of + fmt.Sprint(" by ", apart)
		calls = append(calls,
			call{"ShapeRules" + by, false, func() []any { a, ok := impl.ShapeRules(list.list, apart); return results(a, ok) }, list.changed},
			call{"PressShapes" + by, false, func() []any { a, ok := impl.PressShapes(list.list, apart); return results(a, ok) }, list.changed})
	}
	return calls
}

// strangeShapes has shapes, and lists that are not.
func strangeShapes() [][]impl.Shape {
	all := [][]impl.Shape{
		nil, {}, {{}}, rectangles(0, 0, 1, 1), rectangles(1000, 1000, 1000, 1000), rectangles(0, 0, 2, 2, 1, 1, 2, 2), rectangles(0, 0, 2, 2, 2, 2, 2, 2), rectangles(0, 0, 2, 2, 2, 1, 2, 2),
		sideBySide(9, 0, 1, 1, 0), sideBySide(10, 0, 1, 1, 0), sideBySide(12, 0, 1, 1, 0), sideBySide(13, 0, 1, 1, 0), sideBySide(100000, 0, 1, 1, 0), make([]impl.Shape, 100000),
		slices.Repeat(rectangles(0, 0, 1, 1), 3), rectangles(9, 1, 2, 2, 2, 0, 3, 2), rectangles(5, 0, 1, 3, 5, 3, 1, 3, 0, 2, 1, 2),
	}
	for _, n := range []int64{math.MinInt64, -1, 0, 1, 1000, 1001, 1 << 32, math.MaxInt64} {
		all = append(all, rectangles(n, 0, 1, 1), rectangles(0, n, 1, 1), rectangles(0, 0, n, 1), rectangles(0, 0, 1, n), rectangles(0, 0, 1, 1, n, n, n, n), rectangles(n, n, n, n, 5, 0, 1, 1))
	}
	severalShapes(60, func(_ *rand.Rand, list []impl.Shape) { all = append(all, list) })
	return all
}

func TestPromise1Compaction(t *testing.T) {
	for _, p := range strangePresses() {
		checkCalls(t, callsOfPress(p))
	}
}

func TestPromise1CompactionOfShapes(t *testing.T) {
	var calls []call
	for _, list := range strangeShapes() {
		calls = append(calls, callsOfShapes(list)...)
	}
	checkCalls(t, calls)
}

// TestPromise1CompactionOneMemory adds rules to the same press twice, and places
// to lists that have room behind them.
func TestPromise1CompactionOneMemory(t *testing.T) {
	rules := press(3, "0 1 3|1 2 4|2 0 -9").Rules
	p := impl.Press{Parts: 3, Rules: rules[:1]}
	one, _, _ := impl.AddRule(p, impl.Rule{From: 0, To: 2, Apart: 5})
	two, _, _ := impl.AddRule(p, impl.Rule{From: 1, To: 2, Apart: 6})
	same(t, "rules", results(rules, one, two), results(press(3, "0 1 3|1 2 4|2 0 -9").Rules, press(3, "0 1 3|0 2 5"), press(3, "0 1 3|1 2 6")))
	one.Rules[0].Apart = 7
	same(t, "other rules", results(rules[0], two), results(p.Rules[0], press(3, "0 1 3|1 2 6")))
	places := numbers("0 3 0 9")
	tight, ok := impl.TightRules(p, places[:3])
	same(t, "tight", results(tight, ok), results(numbers("0"), true))
	tight[0] = -7
	path, ok := impl.CriticalPath(p)
	same(t, "path", results(path, ok), results(numbers("0 1"), true))
	path[0] = -7
	same(t, "places", results(places, p), results(numbers("0 3 0 9"), press(3, "0 1 3")))
	list := rectangles(9, 0, 1, 1, 4, 0, 1, 1)
	pressed, ok := impl.PressShapes(list, 0)
	same(t, "shapes", results(pressed, ok), results(rectangles(1, 0, 1, 1, 0, 0, 1, 1), true))
	pressed[0].X = -7
	same(t, "list", list, rectangles(9, 0, 1, 1, 4, 0, 1, 1))
}

// TestPromise1CompactionSeveral calls functions from several goroutines, some of
// which fail.
func TestPromise1CompactionSeveral(t *testing.T) {
	p, rising := press(4, "0 1 3|1 2 4|0 2 9|2 3 -5|3 0 -20"), press(4, "0 1 3|1 2 4|2 0 -6|0 3 1")
	list := rectangles(2, 0, 3, 2, 9, 1, 2, 2, 7, 5, 1, 1)
	all := make(chan string)
	for range 8 {
		go func() {
			places, _ := impl.LeastPlaces(p)
			latest, _ := impl.LatestPlaces(p, 12)
			path, _ := impl.CriticalPath(p)
			_, wrong := impl.LeastPlaces(rising)
			ring, _ := impl.RisingRing(rising)
			_, none := impl.RisingRing(p)
			_, _, added := impl.AddRule(rising, impl.Rule{To: 1})
			pressed, _ := impl.PressShapes(list, 1)
			all <- fmt.Sprint(places, latest, path, wrong, ring, none, added, pressed)
		}()
	}
	for range 8 {
		same(t, "several", <-all, "[0 3 9 4] [3 8 12 12] [0 2] false [0 1 2] false false [{0 0 3 2} {4 1 2 2} {0 5 1 1}]")
	}
}

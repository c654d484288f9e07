package tests

import (
	"fmt"
	"math"
	"math/rand"
	"slices"
	"testing"

	"loop.example/g01149/impl"
)

// strangeGrids has grids, and others that are not valid.
func strangeGrids() []impl.Grid {
	all := []impl.Grid{
		{}, oneCell(), {Across: [][]int64{nil}}, {Across: [][]int64{}, Up: [][]int64{}}, {Up: [][]int64{nil}}, {Across: [][]int64{nil}, Up: [][]int64{nil}},
		{Across: [][]int64{{}, {}}, Up: [][]int64{{1}}}, {Across: [][]int64{{}, nil}, Up: [][]int64{nil}}, {Across: [][]int64{{1}, nil}, Up: [][]int64{{1, 1}}},
		{Across: [][]int64{nil, {1}}, Up: [][]int64{{1, 1}}}, {Across: [][]int64{nil, {1}}, Up: [][]int64{{1}}}, gridOf("1 2|3 4", "5 6 7"), gridOf("1 2|3 4", "5 6"),
		evenGrid(8, 8, 1), evenGrid(8, 8, 20), evenGrid(8, 8, 21), evenGrid(8, 8, -1), evenGrid(9, 8, 1), evenGrid(8, 9, 1), evenGrid(2, 2, 0), evenGrid(2, 2, 1),
		evenGrid(8, 1, 2), evenGrid(1, 8, 2), evenGrid(10000, 1, 1), evenGrid(1, 10000, 1), {Across: make([][]int64, 10000)}, {Across: [][]int64{nil}, Up: make([][]int64, 10000)},
		{Across: make([][]int64, 8), Up: [][]int64{{1}, {1}, {1}, {1}, {1}, {1}, make([]int64, 100000)}},
	}
	for _, room := range []int64{math.MinInt64, -1, 21, 1 << 32, math.MaxInt64} {
		all = append(all, impl.Grid{Across: [][]int64{{1}, {1}}, Up: [][]int64{{1, room}}}, impl.Grid{Across: [][]int64{{1}, {room}}, Up: [][]int64{{1, 1}}})
	}
	dice := rand.New(rand.NewSource(191))
	for range 6 {
		all = append(all, diceGrid(dice, 1+dice.Int63n(8), 1+dice.Int63n(8), 3))
	}
	return all
}

// strangeNets has nets of small and of large grids, and others.
func strangeNets() [][]impl.Net {
	diagonal := netsOf(0, 0, 1, 1)
	all := [][]impl.Net{
		nil, {}, netsOf(0, 0, 0, 0), diagonal, slices.Repeat(diagonal, 2), slices.Repeat(diagonal, 6), slices.Repeat(diagonal, 7), slices.Repeat(diagonal, 100000),
		netsOf(1, 0, 0, 1, 0, 1, 1, 0, 1, 1, 1, 0), netsOf(0, 0, 7, 7), netsOf(7, 0, 0, 7, 0, 7, 7, 0), slices.Repeat(netsOf(7, 7, 0, 0), 6), netsOf(0, 0, 8, 0), netsOf(0, 0, 0, 8),
		netsOf(0, 0, 7, 0, 7, 0, 2, 0), netsOf(0, 7, 0, 0, 0, 2, 0, 3), netsOf(0, 0, 1, 1, 0, 0, 0, 1, 0, 0, 1, 0),
	}
	for _, p := range strangers() {
		all = append(all, []impl.Net{{From: p}}, []impl.Net{{To: p}}, append(slices.Clone(diagonal), impl.Net{From: p, To: p}))
	}
	return all
}

func strangeChoices(nets int) [][]int64 {
	zeros := make([]int64, min(nets, 10))
	return [][]int64{nil, {}, {0}, {1}, {0, 1}, {-1}, {2}, {math.MinInt64}, {math.MaxInt64}, {0, 0, 0, 0, 0, 1 << 32}, {1, 1, 1, 1, 1, 1}, {0, 1, 1, 0, 0, -1}, zeros, make([]int64, 100000)}
}

func guardGrid(given impl.Grid) (impl.Grid, func() bool) {
	across, acrossChanged := guardLists(given.Across, 53)
	up, upChanged := guardLists(given.Up, 54)
	return impl.Grid{Across: across, Up: up}, func() bool { return acrossChanged() || upChanged() }
}

func callsOfGrid(given impl.Grid) []call {
	g, changed := guardGrid(given)
	of := " of " + brief(len(given.Across), len(given.Up), given.Across[:min(3, len(given.Across))], given.Up[:min(3, len(given.Up))])
	calls := []call{{"ValidGrid" + of, true, func() []any { return results(impl.ValidGrid(g)) }, changed}}
	for _, list := range strangeNets() {
		nets := guard(list, impl.Net{From: impl.Point{X: 55, Y: 56}, To: impl.Point{X: 57, Y: 58}})
		what := of + " for " + brief(len(list), list[:min(len(list), 6)])
		netsChanged := func() bool { return changed() || nets.changed() }
		add := func(name string, reports bool, run func() []any) {
			calls = append(calls, call{name + what, reports, run, netsChanged})
		}
		add("GreedyChoice", false, func() []any { a, b, ok := impl.GreedyChoice(g, nets.list); return results(a, b, ok) })
		add("BestChoice", false, func() []any { a, b, ok := impl.BestChoice(g, nets.list); return results(a, b, ok) })
		add("CutBound", false, func() []any { a, ok := impl.CutBound(g, nets.list); return results(a, ok) })
		add("WireTotal", false, func() []any { a, ok := impl.WireTotal(g, nets.list); return results(a, ok) })
		for _, n := range list[:min(len(list), 2)] {
			add("IsNet", true, func() []any { return results(impl.IsNet(g, n)) })
			add("ShapesOf", false, func() []any { a, ok := impl.ShapesOf(g, n); return results(a, ok) })
		}
		for _, choice := range strangeChoices(len(list)) {
			chosen := guard(choice, 59)
			by := what + " by " + brief(len(choice), choice[:min(len(choice), 7)])
			anyChanged := func() bool { return netsChanged() || chosen.changed() }
			calls = append(calls,
				call{"ChosenUse" + by, false, func() []any { a, ok := impl.ChosenUse(g, nets.list, chosen.list); return results(a, ok) }, anyChanged},
				call{"OverflowOf" + by, false, func() []any { a, ok := impl.OverflowOf(g, nets.list, chosen.list); return results(a, ok) }, anyChanged},
				call{"FullestEdge" + by, false, func() []any { a, ok := impl.FullestEdge(g, nets.list, chosen.list); return results(a, ok) }, anyChanged})
		}
	}
	return calls
}

func evenGridCalls() []call {
	var calls []call
	all := []int64{math.MinInt64, -1, 0, 1, 2, 8, 9, 20, 21, 1 << 32, math.MaxInt64}
	for _, width := range all {
		for _, height := range all {
			for _, room := range all {
				run := func() []any { a, ok := impl.EvenGrid(width, height, room); return results(a, ok) }
				calls = append(calls, call{fmt.Sprint("EvenGrid ", width, height, room), false, run, unchangeable})
			}
		}
	}
	return calls
}

func TestPromise1Routes(t *testing.T) {
	checkCalls(t, evenGridCalls())
	for _, g := range strangeGrids() {
		checkCalls(t, callsOfGrid(g))
	}
}

// TestPromise1SomeRoutes has nets of each grid, so that most calls succeed.
func TestPromise1SomeRoutes(t *testing.T) {
	var calls []call
	severalRoutings(300, func(_ *rand.Rand, given impl.Grid, list []impl.Net) {
		g, gridChanged := guardGrid(given)
		nets := guard(list, impl.Net{})
		choice, _, _ := impl.GreedyChoice(given, list)
		chosen := guard(choice, 59)
		changed := func() bool { return gridChanged() || nets.changed() || chosen.changed() }
		what := " for " + brief(list, " in ", given)
		add := func(name string, run func() []any) { calls = append(calls, call{name + what, false, run, changed}) }
		add("BestChoice", func() []any { a, b, ok := impl.BestChoice(g, nets.list); return results(a, b, ok) })
		add("GreedyChoice", func() []any { a, b, ok := impl.GreedyChoice(g, nets.list); return results(a, b, ok) })
		add("ChosenUse", func() []any { a, ok := impl.ChosenUse(g, nets.list, chosen.list); return results(a, ok) })
		add("OverflowOf", func() []any { a, ok := impl.OverflowOf(g, nets.list, chosen.list); return results(a, ok) })
		add("FullestEdge", func() []any { a, ok := impl.FullestEdge(g, nets.list, chosen.list); return results(a, ok) })
		add("CutBound", func() []any { a, ok := impl.CutBound(g, nets.list); return results(a, ok) })
		for _, n := range list {
			add("ShapesOf", func() []any { a, ok := impl.ShapesOf(g, n); return results(a, ok) })
		}
	})
	checkCalls(t, calls)
}

// TestPromise1RoutesOneMemory has the same memory for all lists of a grid, and
// for a choice, too.
func TestPromise1RoutesOneMemory(t *testing.T) {
	row := []int64{0, 1, 1}
	g := impl.Grid{Across: [][]int64{row[:2], row[:2]}, Up: [][]int64{row}}
	nets := netsOf(0, 0, 2, 1, 1, 1, 2, 1)
	use, ok := impl.ChosenUse(g, nets, row[:2])
	same(t, "no choice", results(use, ok), results(impl.Grid{}, false))
	use, ok = impl.ChosenUse(g, nets[:1], row[:1])
	same(t, "use", results(use, ok), results(gridOf("1 0|0 1", "0 1 0"), true))
	use.Across[0][1], use.Up[0][0] = -7, -7
	chosen, n, ok := impl.BestChoice(g, nets)
	same(t, "best", results(chosen, n, ok), results(numbers("1 0"), 1, true))
	chosen[0] = -7
	chosen, n, ok = impl.GreedyChoice(g, nets)
	same(t, "greedy", results(chosen, n, ok), results(numbers("0 0"), 2, true))
	same(t, "row", results(row, nets), results(numbers("0 1 1"), netsOf(0, 0, 2, 1, 1, 1, 2, 1)))
}

// TestPromise1RoutesSeveral calls functions from several goroutines, some of
// which fail.
func TestPromise1RoutesSeveral(t *testing.T) {
	g := evenGrid(3, 3, 1)
	nets, wrong := netsOf(0, 0, 2, 2, 0, 0, 2, 2, 2, 0, 0, 2), netsOf(0, 0, 3, 0)
	all := make(chan string)
	for range 8 {
		go func() {
			chosen, least, _ := impl.BestChoice(g, nets)
			greedy, more, _ := impl.GreedyChoice(g, nets)
			use, _ := impl.ChosenUse(g, nets, chosen)
			bound, _ := impl.CutBound(g, nets)
			_, _, ok := impl.BestChoice(g, wrong)
			all <- fmt.Sprint(chosen, least, greedy, more, use, bound, ok)
		}()
	}
	for range 8 {
		same(t, "several", <-all, "[0 1 2] 2 [0 2 0] 2 {[[2 1] [1 1] [0 1]] [[0 1 2] [1 1 1]]} 0 false")
	}
}

package tests

import (
	"fmt"
	"math"
	"math/rand"
	"slices"
	"testing"

	"loop.example/g01149/impl"
)

// strangeBundles has bundles, and others that are not valid.
func strangeBundles() []impl.Bundle {
	all := []impl.Bundle{
		{}, {Weights: [][]int64{}}, {Weights: [][]int64{nil}}, {Weights: [][]int64{{}}}, {Weights: [][]int64{{}, nil}}, bundle("0"), bundle("1"), bundle("0 5|5 0"), bundle("0 5|4 0"),
		bundle("0 5|5"), bundle("0 5"), bundle("0|5 0"), bundle("0 5|5 0 1"), bundle("0 5|5 0|0 0"), bundle("0 5|5 1"), bundle("0 1000|1000 0"), bundle("0 1001|1001 0"), bundle("0 -1|-1 0"),
		coupled(3, "5 1 2"), coupled(4, "1 2 4 8 16 32"), evenBundle(8, 7), evenBundle(9, 0), evenBundle(9, 1000), evenBundle(9, 1001), evenBundle(10, 0), evenBundle(64, 1), evenBundle(65, 1),
		inRow(1000, 3, 1, 4, 1, 5, 9, 2, 6), {Weights: slices.Repeat([][]int64{{0, 0}}, 2)},
	}
	for _, n := range []int64{math.MinInt64, math.MaxInt64, -1, 1001, 1 << 32} {
		all = append(all, impl.Bundle{Weights: [][]int64{{n}}}, evenBundle(2, n), impl.Bundle{Weights: [][]int64{{0, n}, {-n, 0}}}, impl.Bundle{Weights: [][]int64{{n, 1}, {1, 0}}}, coupled(3, fmt.Sprint("0 0 ", n)))
	}
	severalBundles(24, 8, func(_ *rand.Rand, b impl.Bundle) { all = append(all, b) })
	return all
}

func hugeBundles() []impl.Bundle {
	return []impl.Bundle{{Weights: make([][]int64, 100000)}, {Weights: [][]int64{make([]int64, 100000)}}, evenBundle(500, 1)}
}

func strangeOrders() [][]int64 {
	all := [][]int64{
		nil, {}, {-1}, {1}, {64}, {1, 0}, {0, 2}, {0, 0}, {1, 1}, {-1, 0}, {0, -1}, {0, 64}, {1, 2, 0}, {2, 1, 0}, {0, 1, 1}, {0, 1, 3}, {0, 1, 65}, {0, 1, -62},
		{0, math.MaxInt64}, {math.MinInt64, 0}, {1 << 32, 0}, {3, 1, 2, 0}, {8, 7, 6, 5, 4, 3, 2, 1, 0}, {8, 7, 6, 5, 4, 3, 2, 1, 8}, make([]int64, 9), make([]int64, 20000), counting(0, 20000),
	}
	for wires := int64(1); wires <= 11; wires++ {
		all = append(all, counting(0, wires))
	}
	return append(all, counting(0, 64), counting(0, 65))
}

func strangeShields() [][]int64 {
	all := [][]int64{nil, {}, {0}, {1}, {2}, {3}, {8}, {9}, {-1}, {64}, {65}, {1, 1}, {2, 1}, {1, 3}, {0, 1}, {1, 64}, {1, -63}, {math.MinInt64}, {math.MaxInt64}, {1, math.MaxInt64}, {1 << 32}, make([]int64, 20000)}
	for _, count := range []int64{2, 3, 7, 8, 9, 63, 64, 20000} {
		all = append(all, counting(1, count))
	}
	return all
}

func strangePlacesOfWires() []int64 {
	return []int64{math.MinInt64, -64, -1, 0, 1, 2, 3, 7, 8, 9, 63, 64, 65, 1 << 32, math.MaxInt64}
}

func callsOfBundle(given impl.Bundle) []call {
	weights, changed := guardLists(given.Weights, 71)
	b := impl.Bundle{Weights: weights}
	of := " of " + brief(len(given.Weights), given.Weights[:min(4, len(given.Weights))])
	if len(given.Weights) > 0 {
		of = brief(" of ", len(given.Weights), " ", given.Weights[0][:min(9, len(given.Weights[0]))])
	}
	var calls []call
	add := func(name string, reports bool, run func() []any) {
		calls = append(calls, call{name + of, reports, run, changed})
	}
	add("ValidBundle", true, func() []any { return results(impl.ValidBundle(b)) })
	add("TreeBound", false, func() []any { a, ok := impl.TreeBound(b); return results(a, ok) })
	add("QuietOrder", false, func() []any { a, n, ok := impl.QuietOrder(b); return results(a, n, ok) })
	for _, n := range strangePlacesOfWires() {
		add(fmt.Sprint("BestOrder with ", n), false, func() []any { a, c, ok := impl.BestOrder(b, n); return results(a, c, ok) })
		for _, k := range []int64{math.MinInt64, -1, 0, 1, 2, 8, 9, 64, math.MaxInt64} {
			add(fmt.Sprint("BestBetween from ", n, " to ", k), false, func() []any { a, c, ok := impl.BestBetween(b, n, k); return results(a, c, ok) })
		}
	}
	for _, n := range []int64{math.MinInt64, -1, 0, 7, 8000, 1000000000, 1000000001, math.MaxInt64} {
		add(fmt.Sprint("CountOrdersOf with ", n), false, func() []any { a, ok := impl.CountOrdersOf(b, n); return results(a, ok) })
	}
	for _, list := range strangeOrders() {
		calls = append(calls, callsOfOrder(b, changed, of, list, lists("|1|2|0|3|2 1"))...)
	}
	return append(calls, callsOfOrder(b, changed, of, counting(0, min(wiresIn(b), 20)), strangeShields())...)
}

// callsOfOrder has each of several lists as shields.
func callsOfOrder(b impl.Bundle, changed func() bool, of string, list []int64, several [][]int64) []call {
	order := guard(list, 72)
	by := of + " by " + brief(len(list), list[:min(len(list), 12)])
	either := func() bool { return changed() || order.changed() }
	calls := []call{{"SettleOrder" + by, false, func() []any { a, c, ok := impl.SettleOrder(b, order.list); return results(a, c, ok) }, either}}
	for _, n := range strangePlacesOfWires() {
		calls = append(calls,
			call{fmt.Sprint("BestShields ", n) + by, false, func() []any { a, c, ok := impl.BestShields(b, order.list, n); return results(a, c, ok) }, either},
			call{fmt.Sprint("SwapGain at ", n) + by, false, func() []any { a, ok := impl.SwapGain(b, order.list, n); return results(a, ok) }, either})
	}
	for _, list := range several {
		shields := guard(list, 73)
		with := by + " with " + brief(len(list), list[:min(len(list), 9)])
		some := func() bool { return either() || shields.changed() }
		calls = append(calls,
			call{"IsLayout" + with, true, func() []any { return results(impl.IsLayout(b, order.list, shields.list)) }, some},
			call{"CouplingOf" + with, false, func() []any { a, ok := impl.CouplingOf(b, order.list, shields.list); return results(a, ok) }, some},
			call{"NoiseOf" + with, false, func() []any { a, ok := impl.NoiseOf(b, order.list, shields.list); return results(a, ok) }, some})
	}
	return calls
}

func TestPromise1Order(t *testing.T) {
	for _, b := range strangeBundles() {
		checkCalls(t, callsOfBundle(b))
	}
}

// TestPromise1OrderHuge has few of the calls, as each bundle takes long to
// compare.
func TestPromise1OrderHuge(t *testing.T) {
	for _, b := range hugeBundles() {
		calls := callsOfBundle(b)
		for len(calls) > 0 {
			checkCalls(t, calls[:1])
			calls = calls[min(len(calls), 37):]
		}
	}
}

// TestPromise1OrderOneMemory changes results, and calls functions with lists that
// have room behind them.
func TestPromise1OrderOneMemory(t *testing.T) {
	b := coupled(3, "5 1 2")
	memory := numbers("0 2 1 0 1")
	order, shields := memory[:3], memory[4:]
	settled, coupling, ok := impl.SettleOrder(b, order) // as it is
	same(t, "settled", results(settled, coupling, ok), results(numbers("0 2 1"), 3, true))
	settled[0] = -7
	best, coupling, ok := impl.BestShields(b, order, 1)
	same(t, "shields", results(best, coupling, ok), results(numbers("2"), 1, true))
	best[0] = -7
	noise, ok := impl.NoiseOf(b, order, shields)
	same(t, "noise", results(noise, ok), results(numbers("0 2 2"), true))
	noise[0] = -7
	one, _, _ := impl.BestOrder(b, 0)
	two, _, _ := impl.QuietOrder(b)
	one[0] = -7
	same(t, "orders", results(one, two), results(numbers("-7 2 1"), numbers("0 2 1")))
	three, _, _ := impl.BestOrder(b, 0)
	same(t, "best order again", three, numbers("0 2 1"))
	same(t, "arguments", results(memory, b), results(numbers("0 2 1 0 1"), coupled(3, "5 1 2")))
}

// TestPromise1OrderOneRow has the same memory for several rows.
func TestPromise1OrderOneRow(t *testing.T) {
	row := make([]int64, 9)
	b := impl.Bundle{Weights: slices.Repeat([][]int64{row}, 9)}
	order, coupling, ok := impl.BestOrder(b, 4)
	same(t, "best order", results(order, coupling, ok), results(counting(0, 9), 0, true))
	settled, coupling, ok := impl.SettleOrder(b, counting(0, 9))
	same(t, "settled", results(settled, coupling, ok), results(counting(0, 9), 0, true))
	same(t, "row", row, make([]int64, 9))
}

// TestPromise1OrderSeveral calls functions from several goroutines, some of which
// fail.
func TestPromise1OrderSeveral(t *testing.T) {
	b, none := coupled(4, "5 1 2 6 3 4"), coupled(4, "5 1 2 6 3 1001")
	order := numbers("0 1 2 3")
	all := make(chan string)
	for range 8 {
		go func() {
			best, coupling, _ := impl.BestOrder(b, 1)
			between, cost, _ := impl.BestBetween(b, 3, 1)
			quiet, noise, _ := impl.QuietOrder(b)
			settled, left, _ := impl.SettleOrder(b, order)
			count, _ := impl.CountOrdersOf(b, left)
			_, _, wrong := impl.BestOrder(none, 1)
			_, _, twice := impl.BestBetween(b, 1, 1)
			_, beyond := impl.SwapGain(b, order, 3)
			all <- fmt.Sprint(best, coupling, between, cost, quiet, noise, settled, left, count, wrong, twice, beyond)
		}()
	}
	for range 8 {
		same(t, "several", <-all, "[1 2 0 3] 3 [3 0 2 1] 9 [1 3 0 2] 5 [1 2 0 3] 9 4 false false false")
	}
}

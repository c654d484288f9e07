package tests

import (
	"fmt"
	"math"
	"math/rand"
	"slices"
	"testing"

	"loop.example/g01149/impl"
)

// strangeWirings has wirings, and others that are not valid.
func strangeWirings() []impl.Wiring {
	all := []impl.Wiring{
		{}, {Crossings: [][]int64{}, Joints: [][]int64{}, Fixed: []int64{}}, wired(1, "", "", ""), wired(1, "", "", "1"), wired(14, "", "", ""), wired(15, "", "", ""),
		wired(3, "0 1|0 2|1 2", "", ""), wired(3, "0 1", "0 2 4|1 2 5", "-1 -1 0"), wired(2, "0 1", "", "0 0"), wired(3, "0 1|1 2", "0 2 1", "0 -1 1"),
		wired(3, "1 2|0 2", "", ""), wired(3, "", "0 1 5|0 1 5", ""), wired(3, "0 0", "", ""), wired(3, "0 3", "", ""), wired(3, "-1 0", "", ""),
		wired(3, "0", "", ""), wired(3, "0 1 2", "", ""), wired(3, "", "0 1", ""), wired(3, "", "0 1 2 3", ""), wired(3, "", "0 1 1001", ""), wired(3, "", "", "0 1"),
		{Segments: 2, Crossings: [][]int64{nil, {}}, Fixed: nowhereFixed(2)}, {Segments: 2, Joints: [][]int64{{}, nil}, Fixed: nowhereFixed(2)},
		{Segments: 14, Crossings: pairsOf(14)[:30], Fixed: nowhereFixed(14)}, {Segments: 14, Crossings: pairsOf(14), Fixed: nowhereFixed(14)},
		{Segments: 14, Crossings: ringOver(counting(0, 13)...), Fixed: nowhereFixed(14)},
		{Segments: 100000, Fixed: nowhereFixed(100000)}, {Segments: 14, Crossings: slices.Repeat(lists("0 1"), 100000), Fixed: nowhereFixed(14)},
		{Segments: 14, Joints: [][]int64{counting(0, 100000)}, Fixed: nowhereFixed(14)},
	}
	for _, n := range []int64{math.MinInt64, math.MaxInt64, -1, 15, 63, 64, 1 << 32} {
		all = append(all, impl.Wiring{Segments: n}, impl.Wiring{Segments: n, Crossings: lists("0 1"), Fixed: nowhereFixed(2)},
			impl.Wiring{Segments: 2, Fixed: []int64{0, n}}, impl.Wiring{Segments: 2, Crossings: [][]int64{{0, n}}, Fixed: nowhereFixed(2)},
			impl.Wiring{Segments: 2, Crossings: [][]int64{{n, 1}}, Fixed: nowhereFixed(2)}, impl.Wiring{Segments: n, Crossings: [][]int64{{n - 2, n - 1}}},
			impl.Wiring{Segments: 2, Joints: [][]int64{{0, 1, n}}, Fixed: nowhereFixed(2)}, impl.Wiring{Segments: 2, Joints: [][]int64{{n, n, 1}}, Fixed: nowhereFixed(2)})
	}
	severalWirings(60, func(_ *rand.Rand, w impl.Wiring) { all = append(all, w) })
	return all
}

func strangeLayers() [][]int64 {
	all := [][]int64{nil, {}, {0, 1, 2}, {0, -1, 0}, {0, math.MaxInt64, 0}, {math.MinInt64, 1, 0}, {0, 1, 1 << 32}, make([]int64, 15), make([]int64, 100000)}
	for segments := int64(1); segments <= 14; segments++ {
		layers := make([]int64, segments)
		for i := range layers {
			layers[i] = int64(i) % 2
		}
		all = append(all, layers)
	}
	for _, text := range []string{"0", "1", "0 1", "1 0", "0 0", "1 0 0", "0 1 1", "0 0 0", "1 1 1"} {
		all = append(all, numbers(text))
	}
	return all
}

func guardWiring(given impl.Wiring) (impl.Wiring, func() bool) {
	crossings, crossingsChanged := guardLists(given.Crossings, 47)
	joints, jointsChanged := guardLists(given.Joints, 48)
	fixed := guard(given.Fixed, 49)
	w := impl.Wiring{Segments: given.Segments, Crossings: crossings, Joints: joints, Fixed: fixed.list}
	return w, func() bool { return crossingsChanged() || jointsChanged() || fixed.changed() }
}

func callsOfWiring(given impl.Wiring) []call {
	w, changed := guardWiring(given)
	of := " of " + brief(given.Segments, given.Crossings[:min(5, len(given.Crossings))], given.Joints[:min(5, len(given.Joints))], given.Fixed[:min(14, len(given.Fixed))])
	var calls []call
	add := func(name string, reports bool, run func() []any) {
		calls = append(calls, call{name + of, reports, run, changed})
	}
	add("ValidWiring", true, func() []any { return results(impl.ValidWiring(w)) })
	add("GroupsOf", false, func() []any { a, ok := impl.GroupsOf(w); return results(a, ok) })
	add("OddRing", false, func() []any { a, ok := impl.OddRing(w); return results(a, ok) })
	add("FewestVias", false, func() []any { a, b, ok := impl.FewestVias(w); return results(a, b, ok) })
	add("CountBest", false, func() []any { a, ok := impl.CountBest(w); return results(a, ok) })
	first, _, _ := impl.FewestVias(given)
	for _, list := range append(strangeLayers(), first) {
		layers := guard(list, 50)
		by := " by " + brief(list[:min(len(list), 16)])
		either := func() bool { return changed() || layers.changed() }
		calls = append(calls, call{"IsLayering" + of + by, true, func() []any { return results(impl.IsLayering(w, layers.list)) }, either})
		calls = append(calls, call{"CostOf" + of + by, false, func() []any { a, ok := impl.CostOf(w, layers.list); return results(a, ok) }, either})
		for _, n := range []int64{0, 1, 13, 14, 64, -1, math.MinInt64, math.MaxInt64} {
			run := func() []any { a, ok := impl.FlipGroup(w, layers.list, n); return results(a, ok) }
			calls = append(calls, call{fmt.Sprint("FlipGroup ", n) + of + by, false, run, either})
		}
	}
	return calls
}

func callsOfPaths(given ...[]impl.Point) []call {
	paths, changed := guardLists(given, impl.Point{X: 51, Y: 52})
	of := " of " + brief(len(given), " ", given)
	return []call{
		{"SegmentsOf" + of, false, func() []any { a, ok := impl.SegmentsOf(paths); return results(a, ok) }, changed},
		{"WiringOf" + of, false, func() []any { a, ok := impl.WiringOf(paths); return results(a, ok) }, changed},
	}
}

func TestPromise1Layers(t *testing.T) {
	for _, w := range strangeWirings() {
		checkCalls(t, callsOfWiring(w))
	}
}

func TestPromise1LayersOfPaths(t *testing.T) {
	calls := callsOfPaths()
	for _, list := range strangeLists() {
		calls = append(calls, callsOfPaths(list)...)
		calls = append(calls, callsOfPaths(through(0, 0, 9, 0, 9, 9), list)...)
		calls = append(calls, callsOfPaths(list, through(0, 0, 9, 0, 9, 9))...)
		calls = append(calls, callsOfPaths(list, list, list)...)
	}
	dice := rand.New(rand.NewSource(157))
	for i := range 300 {
		var paths [][]impl.Point
		for range dice.Intn(8) {
			paths = append(paths, dicePath(dice, []int64{4, 30}[i%2], 1+dice.Intn(6)))
		}
		calls = append(calls, callsOfPaths(paths...)...)
	}
	calls = append(calls, callsOfPaths(slices.Repeat([][]impl.Point{snake(576)}, 6)...)...)
	calls = append(calls, callsOfPaths(slices.Repeat([][]impl.Point{snake(5)}, 10000)...)...)
	calls = append(calls, callsOfPaths(make([][]impl.Point, 10000)...)...)
	checkCalls(t, calls)
}

// TestPromise1LayersOneMemory has the same memory for all lists of a wiring, and
// for layers, too.
func TestPromise1LayersOneMemory(t *testing.T) {
	row := []int64{0, 1, 0, 1}
	all := [][]int64{row[:2], row[1:3], row[:3]}
	w := impl.Wiring{Segments: 2, Crossings: all[:1], Joints: all[2:], Fixed: row[:2]}
	layers, cost, ok := impl.FewestVias(w)
	same(t, "fewest", results(layers, cost, ok), results(numbers("0 1"), 0, true))
	layers[0], layers[1] = -7, -7
	same(t, "layering", impl.IsLayering(w, row[2:]), true)
	w.Fixed = nowhereFixed(2)
	flipped, ok := impl.FlipGroup(w, row[:2], 0)
	same(t, "flip", results(flipped, ok), results(numbers("1 0"), true))
	groups, ok := impl.GroupsOf(w)
	same(t, "groups", results(groups, ok), results(lists("0 1"), true))
	groups[0][0] = -7
	same(t, "row", results(row, all), results(numbers("0 1 0 1"), lists("0 1|1 0|0 1 0")))
}

// TestPromise1LayersSeveral calls functions from several goroutines, some of
// which fail.
func TestPromise1LayersSeveral(t *testing.T) {
	w, odd := wired(3, "0 1", "0 2 4|1 2 5", ""), wired(3, "0 1|0 2|1 2", "", "")
	paths := [][]impl.Point{through(0, 1, 2, 1, 2, 3), through(1, 0, 1, 2)}
	all := make(chan string)
	for range 8 {
		go func() {
			layers, cost, _ := impl.FewestVias(w)
			count, _ := impl.CountBest(w)
			_, _, wrong := impl.FewestVias(odd)
			ring, _ := impl.OddRing(odd)
			made, _ := impl.WiringOf(paths)
			all <- fmt.Sprint(layers, cost, count, wrong, ring, made)
		}()
	}
	for range 8 {
		same(t, "several", <-all, "[0 1 1] 4 2 false [0 1 2] {3 [[0 2]] [[0 1 1]] [-1 -1 -1]}")
	}
}

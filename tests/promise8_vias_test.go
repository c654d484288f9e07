package tests

import (
	"fmt"
	"math"
	"math/rand"
	"slices"
	"testing"

	"loop.example/g01149/impl"
)

// checkVias compares what is told of the best layerings with all layers, and
// returns how many are the best.
func checkVias(t *testing.T, w impl.Wiring) int64 {
	t.Helper()
	first, least, count := bestByRule(w)
	layers, cost, ok := impl.FewestVias(w)
	same(t, "fewest of "+brief(w), results(layers, cost, ok), results(first, least, count > 0))
	best, ok := impl.CountBest(w)
	same(t, "count of "+brief(w), results(best, ok), results(count, true))
	_, odd := impl.OddRing(w)
	same(t, "layering of "+brief(w), count > 0, !odd && !asksForBoth(w))
	return count
}

// asksForBoth tells whether two fixed segments of a group ask for different
// layers of the same segment: an even number of crossings leads from one to the
// other, and they are different, or an odd number, and they are the same.
func asksForBoth(w impl.Wiring) bool {
	type asked struct{ segment, layer int64 }
	all := map[asked]bool{}
	for n, layer := range w.Fixed {
		if layer >= 0 {
			all[asked{int64(n), layer}] = true
		}
	}
	for range w.Segments {
		for _, pair := range w.Crossings {
			for layer := range int64(2) {
				for _, to := range [][2]int64{{pair[0], pair[1]}, {pair[1], pair[0]}} {
					if all[asked{to[0], layer}] {
						all[asked{to[1], 1 - layer}] = true
					}
				}
			}
		}
	}
	for n := range w.Segments {
		if all[asked{n, 0}] && all[asked{n, 1}] {
			return true
		}
	}
	return false
}

// checkLayers compares what is told of any layers with the document's rules.
func checkLayers(t *testing.T, w impl.Wiring, layers []int64) bool {
	t.Helper()
	is := isLayeringByRule(w, layers)
	if impl.IsLayering(w, layers) != is {
		t.Errorf("layering %v of %s is not %t", layers, brief(w), is)
	}
	cost, ok := impl.CostOf(w, layers)
	want := int64(0)
	if is {
		want = costByRule(w, layers)
	}
	if cost != want || ok != is {
		t.Errorf("cost of %v of %s: got %d, %t, want %d, %t", layers, brief(w), cost, ok, want, is)
	}
	return is
}

// checkFlips flips each group, and beside them one before and one behind.
func checkFlips(t *testing.T, w impl.Wiring, layers []int64) (flips int) {
	t.Helper()
	groups := groupsByRule(w)
	for n := int64(-1); n <= int64(len(groups)); n++ {
		flipped, ok := impl.FlipGroup(w, layers, n)
		var want []int64
		if n >= 0 && n < int64(len(groups)) && isLayeringByRule(w, layers) {
			want = slices.Clone(layers)
			for _, i := range groups[n] {
				want[i] = 1 - want[i]
			}
			if slices.ContainsFunc(groups[n], func(i int64) bool { return w.Fixed[i] != -1 }) {
				want = nil
			}
		}
		if want != nil {
			flips++
			same(t, "flipped layering of "+brief(w), impl.IsLayering(w, flipped), true)
		}
		same(t, brief("flip of ", n, layers, w), results(flipped, ok), results(want, want != nil))
	}
	return flips
}

func TestPromise8Vias(t *testing.T) {
	none, one, several := 0, 0, 0
	check := func(w impl.Wiring) {
		switch checkVias(t, w) {
		case 0:
			none++
		case 1:
			one++
		default:
			several++
		}
	}
	tinyWirings(check)
	if none < 1000 || one < 1000 || several < 1000 {
		t.Errorf("too few small wirings have no layering, %d, or one best one, %d, or several, %d", none, one, several)
	}
	none, one, several = 0, 0, 0
	severalWirings(1500, func(_ *rand.Rand, w impl.Wiring) { check(w) })
	if none < 100 || one < 100 || several < 200 {
		t.Errorf("too few wirings have no layering, %d, or one best one, %d, or several, %d", none, one, several)
	}
}

func TestPromise8Layers(t *testing.T) {
	is, isNot, flips := 0, 0, 0
	check := func(w impl.Wiring) {
		layersOver(w.Segments, func(layers []int64) {
			if checkLayers(t, w, layers) {
				is++
				flips += checkFlips(t, w, layers)
			} else {
				isNot++
			}
		})
	}
	kept := 0
	tinyWirings(func(w impl.Wiring) {
		if kept++; kept%2 == 0 {
			check(w)
		}
	})
	severalWirings(60, func(_ *rand.Rand, w impl.Wiring) {
		if w.Segments < 9 {
			check(w)
		}
	})
	severalWirings(400, func(dice *rand.Rand, w impl.Wiring) {
		layers, _, _ := impl.FewestVias(w)
		checkLayers(t, w, layers)
		checkFlips(t, w, layers)
		if len(layers) > 0 {
			changed := slices.Clone(layers)
			changed[dice.Intn(len(layers))] ^= 1
			checkLayers(t, w, changed)
			checkFlips(t, w, changed)
		}
	})
	if is < 3000 || isNot < 3000 || flips < 3000 {
		t.Errorf("too few layers are a layering, %d, or not, %d, or can be flipped, %d", is, isNot, flips)
	}
}

func TestPromise8ViasByHand(t *testing.T) {
	for _, row := range []struct {
		w      impl.Wiring
		layers string
		cost   int64
		count  int64
	}{
		{wired(0, "", "", ""), "", 0, 1},
		{wired(1, "", "", ""), "0", 0, 2},
		{wired(1, "", "", "0"), "0", 0, 1},
		{wired(1, "", "", "1"), "1", 0, 1},
		{wired(14, "", "", ""), "0 0 0 0 0 0 0 0 0 0 0 0 0 0", 0, 16384}, // groups of one segment
		{wired(3, "", "", "-1 1 -1"), "0 1 0", 0, 4},
		{wired(2, "0 1", "", ""), "0 1", 0, 2},
		{wired(2, "0 1", "", "1 -1"), "1 0", 0, 1},
		{wired(2, "0 1", "", "-1 0"), "1 0", 0, 1},
		{wired(2, "", "0 1 7", ""), "0 0", 0, 2},
		{wired(2, "", "0 1 7", "0 1"), "0 1", 7, 1},
		{wired(2, "", "0 1 1000", "1 0"), "1 0", 1000, 1},
		{wired(2, "", "0 1 0", ""), "0 0", 0, 4},                 // different layers cost nothing
		{wired(2, "0 1", "0 1 7", ""), "0 1", 7, 2},              // two that cross and have a joint
		{wired(2, "0 1", "0 1 0|0 1 3|0 1 7", ""), "0 1", 10, 2}, // several joints
		{wired(2, "", "0 1 0|0 1 3|0 1 7", "0 1"), "0 1", 10, 1},
		{wired(3, "0 1", "0 2 4|1 2 5", ""), "0 1 1", 4, 2}, // the cheaper one
		{wired(3, "0 1", "0 2 5|1 2 4", ""), "0 1 0", 4, 2},
		{wired(3, "0 1", "0 2 5|1 2 5", ""), "0 1 0", 5, 4},        // as dear
		{wired(3, "0 1", "0 2 3|0 2 4|1 2 6", ""), "0 1 0", 6, 2},  // both joints of two segments count
		{wired(3, "0 1", "0 2 4|1 2 5", "-1 -1 0"), "1 0 0", 4, 1}, // the example
		{wired(4, "0 3|1 2", "0 1 5|2 3 1", ""), "0 0 1 1", 0, 2},  // groups that agree
		{wired(4, "0 1|2 3", "0 2 1|0 3 1", ""), "0 1 0 1", 1, 4},  // whichever way
		{wired(4, "0 1|2 3", "0 2 1|0 3 2", ""), "0 1 1 0", 1, 2},
		{wired(4, "0 1|0 2|0 3", "1 2 9", ""), "0 1 1 1", 0, 2},     // one group of all
		{wired(4, "0 1|0 3|1 2|2 3", "0 1 3", ""), "0 1 0 1", 3, 2}, // a ring of four
		{wired(5, "0 1|3 4", "1 2 1|2 3 1", "0 -1 -1 0 -1"), "0 1 0 0 1", 1, 2},
		{wired(5, "3 4", "0 3 2|1 3 2|2 4 3", "0 0 0 -1 -1"), "0 0 0 0 1", 3, 1},
		{wired(5, "3 4", "0 3 1|1 3 1|2 4 3", "0 0 0 -1 -1"), "0 0 0 1 0", 2, 1},
		{wired(3, "0 1|0 2|1 2", "", ""), "", 0, 0}, // an odd ring
		{wired(4, "1 2|1 3|2 3", "0 1 5", ""), "", 0, 0},
		{wired(5, "0 1|0 4|1 2|2 3|3 4", "", ""), "", 0, 0},
		{wired(2, "0 1", "", "0 0"), "", 0, 0}, // fixed segments without an odd ring: neighbours
		{wired(2, "0 1", "", "1 1"), "", 0, 0},
		{wired(3, "0 1|1 2", "", "0 -1 1"), "", 0, 0}, // and others of one group
		{wired(3, "0 1|1 2", "", "1 -1 0"), "", 0, 0},
		{wired(4, "0 1|1 2|2 3", "0 3 4", "0 -1 -1 0"), "", 0, 0},
		{wired(4, "0 1|1 2|2 3", "0 3 4", "0 -1 -1 1"), "0 1 0 1", 4, 1},
		{wired(3, "0 1|1 2", "", "0 -1 0"), "0 1 0", 0, 1},
		{wired(3, "0 1", "", "0 -1 1"), "0 1 1", 0, 1}, // of different groups
		{wired(4, "0 1|2 3", "", "0 -1 0 0"), "", 0, 0},
	} {
		same(t, "valid "+brief(row.w), isWiring(row.w), true)
		checkVias(t, row.w)
		layers, cost, ok := impl.FewestVias(row.w)
		same(t, "fewest of "+brief(row.w), results(layers, cost, ok), results(numbers(row.layers), row.cost, row.count > 0))
		count, ok := impl.CountBest(row.w)
		same(t, "count of "+brief(row.w), results(count, ok), results(row.count, true))
	}
}

// TestPromise8Dear has as many joints as there can be, all with MaxCost.
func TestPromise8Dear(t *testing.T) {
	w := wired(14, "", "", "0 1 0 1 0 1 0 1 0 1 0 1 0 1")
	for _, pair := range pairsOf(14) {
		if (pair[1]-pair[0])%2 == 1 && len(w.Joints) < 30 {
			w.Joints = append(w.Joints, append(pair, 1000))
		}
	}
	layers, cost, ok := impl.FewestVias(w)
	same(t, "dear", results(layers, cost, ok), results(w.Fixed, 30000, true))
	cost, ok = impl.CostOf(w, w.Fixed)
	same(t, "cost", results(cost, ok), results(30000, true))
}

func TestPromise8LayersByHand(t *testing.T) {
	example := wired(3, "0 1", "0 2 4|1 2 5", "-1 -1 0")
	free := wired(3, "0 1", "0 2 4|1 2 5", "")
	for _, row := range []struct {
		w      impl.Wiring
		layers []int64
		cost   int64
		ok     bool
	}{
		{wired(0, "", "", ""), nil, 0, true},
		{wired(0, "", "", ""), numbers("0"), 0, false},
		{wired(1, "", "", ""), numbers("0"), 0, true},
		{wired(1, "", "", ""), numbers("1"), 0, true},
		{wired(1, "", "", ""), nil, 0, false},
		{wired(1, "", "", "1"), numbers("1"), 0, true},
		{wired(1, "", "", "1"), numbers("0"), 0, false}, // not as it is fixed
		{wired(1, "", "", "0"), numbers("1"), 0, false},
		{example, numbers("0 1 0"), 5, true},
		{example, numbers("1 0 0"), 4, true},
		{example, numbers("0 1 1"), 0, false},
		{example, numbers("1 1 0"), 0, false}, // segments that cross in one layer
		{free, numbers("0 0 0"), 0, false},
		{free, numbers("1 0 1"), 5, true},
		{free, numbers("0 1 1"), 4, true},
		{free, numbers("0 1"), 0, false}, // too few, and too many
		{free, numbers("0 1 0 0"), 0, false},
		{free, nil, 0, false},
		{free, numbers("0 1 2"), 0, false}, // other numbers
		{free, numbers("0 2 0"), 0, false},
		{free, numbers("2 1 0"), 0, false},
		{free, numbers("0 1 -1"), 0, false},
		{free, numbers("-1 0 0"), 0, false},
		{free, []int64{0, 1, math.MaxInt64}, 0, false},
		{free, []int64{math.MinInt64, 1, 0}, 0, false},
		{free, []int64{0, 1 << 32, 0}, 0, false},
		{wired(3, "0 1|0 2|1 2", "", ""), numbers("0 1 0"), 0, false}, // an odd ring
		{wired(3, "0 1|0 2|1 2", "", ""), numbers("0 0 1"), 0, false},
		{wired(2, "", "0 1 3|0 1 4", ""), numbers("0 1"), 7, true},
		{wired(2, "", "0 1 3|0 1 4", ""), numbers("1 1"), 0, true},
		{wired(14, "0 13", "0 13 1000", ""), numbers("1 0 0 0 0 0 0 0 0 0 0 0 0 0"), 1000, true},
		{wired(14, "0 13", "0 13 1000", ""), numbers("1 0 0 0 0 0 0 0 0 0 0 0 0 1"), 0, false},
	} {
		same(t, brief("layering ", row.layers, " of ", row.w), impl.IsLayering(row.w, row.layers), row.ok)
		cost, ok := impl.CostOf(row.w, row.layers)
		same(t, brief("cost of ", row.layers, " of ", row.w), results(cost, ok), results(row.cost, row.ok))
		checkFlips(t, row.w, row.layers)
	}
}

// TestPromise8OtherNumbers puts other numbers into layers of all lengths.
func TestPromise8OtherNumbers(t *testing.T) {
	for segments := range int64(15) {
		w := wired(segments, "", "", "")
		for length := range int64(17) {
			layers := make([]int64, length)
			same(t, fmt.Sprint(length, " layers of ", segments), impl.IsLayering(w, layers), length == segments)
			for i := range layers {
				for _, n := range []int64{-1, 2, 3, -2, 64, 1 << 32, math.MinInt64, math.MaxInt64} {
					layers[i] = n
					checkLayers(t, w, layers)
				}
				layers[i] = 1
			}
			checkLayers(t, w, layers)
		}
	}
}

func TestPromise8FlipsByHand(t *testing.T) {
	w := wired(6, "0 3|2 5|3 4", "0 1 5", "-1 -1 0 -1 -1 -1") // the groups 0 3 4, 1, and 2 5
	for _, row := range []struct {
		layers string
		group  int64
		want   string
	}{
		{"0 0 0 1 0 1", 0, "1 0 0 0 1 1"},
		{"1 1 0 0 1 1", 0, "0 1 0 1 0 1"},
		{"0 0 0 1 0 1", 1, "0 1 0 1 0 1"},
		{"0 1 0 1 0 1", 1, "0 0 0 1 0 1"},
		{"0 0 0 1 0 1", 2, ""}, // a group with a fixed segment
		{"0 0 0 1 0 1", 3, ""}, // no group
		{"0 0 0 1 0 1", -1, ""},
		{"0 0 0 1 0 1", math.MaxInt64, ""},
		{"0 0 0 1 0 1", math.MinInt64, ""},
		{"0 0 0 0 0 1", 1, ""}, // no layering
		{"0 0 1 1 0 0", 1, ""},
		{"0 0 0 1 0", 1, ""},
		{"0 0 0 1 0 1 0", 1, ""},
		{"0 2 0 1 0 1", 1, ""},
	} {
		flipped, ok := impl.FlipGroup(w, numbers(row.layers), row.group)
		same(t, brief("flip of ", row.group, " in ", row.layers), results(flipped, ok), results(numbers(row.want), row.want != ""))
	}
	for _, group := range []int64{-1, 0, 1} {
		flipped, ok := impl.FlipGroup(impl.Wiring{}, nil, group)
		same(t, brief("flip of no segments ", group), results(flipped, ok), results(numbers(""), false))
	}
	one := wired(1, "", "", "")
	for group, want := range map[int64]string{-1: "", 0: "0", 1: ""} {
		flipped, ok := impl.FlipGroup(one, []int64{1}, group)
		same(t, brief("flip of one segment ", group), results(flipped, ok), results(numbers(want), want != ""))
	}
}

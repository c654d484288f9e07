package tests

import (
	"math"
	"math/rand"
	"slices"
	"testing"

	"loop.example/g01149/impl"
)

func TestPromise8Limits(t *testing.T) {
	same(t, "limits", results(impl.MaxSegments, impl.MaxJoints, impl.MaxCost, impl.MaxPaths), results(14, 30, 1000, 6))
}

// checkNoWiring checks that w is not valid, and that all functions with a
// wiring fail then.
func checkNoWiring(t *testing.T, w impl.Wiring) {
	t.Helper()
	what := "no wiring " + brief(w)
	same(t, what, impl.ValidWiring(w), false)
	for _, layers := range [][]int64{nil, {0}, {0, 1}, {0, 1, 0}, make([]int64, 14), make([]int64, 15)} {
		same(t, "layers of "+what, impl.IsLayering(w, layers), false)
		cost, ok := impl.CostOf(w, layers)
		same(t, "cost of "+what, results(cost, ok), results(0, false))
		flipped, ok := impl.FlipGroup(w, layers, 0)
		same(t, "flip of "+what, results(flipped, ok), results(numbers(""), false))
	}
	groups, ok := impl.GroupsOf(w)
	same(t, "groups of "+what, results(groups, ok), results(lists(""), false))
	ring, ok := impl.OddRing(w)
	same(t, "ring of "+what, results(ring, ok), results(numbers(""), false))
	layers, cost, ok := impl.FewestVias(w)
	same(t, "fewest of "+what, results(layers, cost, ok), results(numbers(""), 0, false))
	count, ok := impl.CountBest(w)
	same(t, "count of "+what, results(count, ok), results(0, false))
}

// checkWiring checks what is reported of w, and returns it.
func checkWiring(t *testing.T, w impl.Wiring) bool {
	t.Helper()
	if !isWiring(w) {
		checkNoWiring(t, w)
		return false
	}
	same(t, "wiring "+brief(w), impl.ValidWiring(w), true)
	return true
}

func TestPromise8ValidWiring(t *testing.T) {
	for _, row := range []struct {
		w    impl.Wiring
		want bool
	}{
		{impl.Wiring{}, true}, // no segments
		{impl.Wiring{Crossings: [][]int64{}, Joints: [][]int64{}, Fixed: []int64{}}, true},
		{wired(1, "", "", ""), true}, // one segment
		{wired(1, "", "", "0"), true},
		{wired(1, "", "", "1"), true},
		{wired(14, "", "", ""), true}, // MaxSegments
		{wired(14, "0 13|12 13", "0 13 5|12 13 6", ""), true},
		{wired(15, "", "", ""), false}, // and one more
		{wired(15, "0 1", "", ""), false},
		{impl.Wiring{Segments: -1}, false},
		{impl.Wiring{Segments: math.MaxInt64}, false},
		{impl.Wiring{Segments: math.MinInt64}, false},

		{wired(3, "0 1|0 2|1 2", "", ""), true},
		{wired(3, "0 2|0 1|1 2", "", ""), false}, // descending
		{wired(3, "1 2|0 2", "", ""), false},
		{wired(3, "0 1|1 2|0 2", "", ""), false},
		{wired(3, "0 1|0 1", "", ""), false}, // equal lists
		{wired(3, "0 1|0 1|0 2", "", ""), false},
		{wired(3, "0 1|1 2|1 2", "", ""), false},
		{wired(3, "0 0", "", ""), false}, // the same segment
		{wired(3, "2 2", "", ""), false},
		{wired(3, "1 0", "", ""), false}, // the greater one first
		{wired(3, "0 1|2 1", "", ""), false},
		{wired(3, "-1 0", "", ""), false}, // below 0
		{wired(3, "-1 1|0 1", "", ""), false},
		{wired(3, "-2 -1", "", ""), false},
		{wired(3, "0 3", "", ""), false}, // not below Segments
		{wired(3, "0 1|2 3", "", ""), false},
		{wired(3, "3 4", "", ""), false},
		{wired(1, "0 1", "", ""), false},
		{wired(0, "0 1", "", ""), false},
		{wired(3, "0", "", ""), false}, // too few numbers, and too many
		{wired(3, "0 1 2", "", ""), false},
		{wired(3, "0 1|0 1 2", "", ""), false},
		{wired(3, "0 1|0 2|1", "", ""), false},
		{impl.Wiring{Segments: 2, Crossings: [][]int64{nil}, Fixed: nowhereFixed(2)}, false},
		{impl.Wiring{Segments: 2, Crossings: [][]int64{{0, 1}, {}}, Fixed: nowhereFixed(2)}, false},
		{impl.Wiring{Segments: 2, Crossings: [][]int64{{0, math.MaxInt64}}, Fixed: nowhereFixed(2)}, false},
		{impl.Wiring{Segments: 2, Crossings: [][]int64{{math.MinInt64, 1}}, Fixed: nowhereFixed(2)}, false},

		{wired(3, "", "0 1 4|0 2 0|1 2 1000", ""), true},
		{wired(3, "", "0 1 4|0 1 5|0 1 1000", ""), true}, // the same two segments with different costs
		{wired(3, "", "0 1 5|0 1 4", ""), false},         // in descending order
		{wired(3, "", "0 1 5|0 1 5", ""), false},         // with the same cost
		{wired(3, "", "0 2 1|0 1 9", ""), false},         // descending
		{wired(3, "", "1 2 1|0 1 9", ""), false},
		{wired(3, "", "0 1 9|1 2 1|1 2 0", ""), false},
		{wired(3, "0 1", "0 1 7", ""), true},               // a crossing and a joint
		{wired(3, "0 1|0 2", "0 1 7|0 2 7", "0 1"), false}, // too few fixed
		{wired(3, "0 1|0 2", "0 1 7|0 2 7", "0 1 1"), true},
		{wired(3, "", "0 0 1", ""), false}, // the same segment
		{wired(3, "", "1 0 1", ""), false}, // the greater one first
		{wired(3, "", "0 1 1|2 1 1", ""), false},
		{wired(3, "", "-1 0 1", ""), false}, // below 0
		{wired(3, "", "0 3 1", ""), false},  // not below Segments
		{wired(3, "", "0 1 1|2 3 1", ""), false},
		{wired(1, "", "0 1 1", ""), false},
		{wired(3, "", "0 1", ""), false}, // too few numbers, and too many
		{wired(3, "", "0 1 1|0 2", ""), false},
		{wired(3, "", "0 1 1 1", ""), false},
		{wired(3, "", "0", ""), false},
		{impl.Wiring{Segments: 2, Joints: [][]int64{nil}, Fixed: nowhereFixed(2)}, false},
		{wired(2, "", "0 1 0", ""), true}, // costs
		{wired(2, "", "0 1 1000", ""), true},
		{wired(2, "", "0 1 1001", ""), false},
		{wired(2, "", "0 1 -1", ""), false},
		{wired(2, "", "0 1 -1|0 1 5", ""), false},
		{wired(2, "", "0 1 5|0 1 1001", ""), false},
		{impl.Wiring{Segments: 2, Joints: [][]int64{{0, 1, math.MinInt64}}, Fixed: nowhereFixed(2)}, false},
		{impl.Wiring{Segments: 2, Joints: [][]int64{{0, 1, math.MaxInt64}}, Fixed: nowhereFixed(2)}, false},

		{wired(3, "", "", "-1 0 1"), true},
		{wired(3, "", "", "-2 0 1"), false}, // no layers
		{wired(3, "", "", "0 2 0"), false},
		{wired(3, "", "", "0 0 3"), false},
		{impl.Wiring{Segments: 1, Fixed: []int64{math.MaxInt64}}, false},
		{impl.Wiring{Segments: 1, Fixed: []int64{math.MinInt64}}, false},
		{wired(3, "", "", "0 1"), false}, // too few, and too many
		{wired(3, "", "", "0 1 0 1"), false},
		{impl.Wiring{Segments: 1}, false},
		{impl.Wiring{Fixed: []int64{-1}}, false},
	} {
		same(t, "wiring "+brief(row.w), checkWiring(t, row.w), row.want)
	}
}

// TestPromise8ManyLists has up to MaxJoints lists and more.
func TestPromise8ManyLists(t *testing.T) {
	pairs, free := pairsOf(14), nowhereFixed(14)
	var joints, beside [][]int64 // of all pairs, and of one
	for i, pair := range pairs {
		joints = append(joints, []int64{pair[0], pair[1], int64(i % 3)})
		beside = append(beside, []int64{2, 5, int64(11 * i)})
	}
	for count := range 92 {
		for _, w := range []impl.Wiring{
			{Segments: 14, Crossings: pairs[:count], Fixed: free},
			{Segments: 14, Joints: joints[:count], Fixed: free},
			{Segments: 14, Joints: beside[:count], Fixed: free},
			{Segments: 14, Crossings: pairs[:30], Joints: joints[:count], Fixed: free},
			{Segments: 14, Crossings: pairs[:count], Joints: beside[:30], Fixed: free},
		} {
			same(t, brief(count, " lists in ", w), checkWiring(t, w), count <= 30)
		}
	}
}

// TestPromise8ChangedWirings changes valid wirings a little.
func TestPromise8ChangedWirings(t *testing.T) {
	valid, broken := 0, 0
	severalWirings(1500, func(dice *rand.Rand, w impl.Wiring) {
		same(t, "valid "+brief(w), checkWiring(t, w), true)
		if len(w.Crossings) == 0 || len(w.Joints) == 0 {
			return
		}
		w.Crossings, w.Joints = deepClone(w.Crossings), deepClone(w.Joints)
		all := [][][]int64{w.Crossings, w.Joints}[dice.Intn(2)]
		k, other := dice.Intn(len(all)), dice.Intn(len(all))
		switch dice.Intn(5) {
		case 0:
			all[k][dice.Intn(len(all[k]))] += dice.Int63n(5) - 2
		case 1:
			all[k], all[other] = all[other], all[k]
		case 2:
			all[k] = slices.Clone(all[other])
		case 3:
			w.Fixed[dice.Intn(len(w.Fixed))] += dice.Int63n(5) - 2
		default:
			w.Segments += dice.Int63n(3) - 1
		}
		if checkWiring(t, w) {
			valid++
		} else {
			broken++
		}
	})
	if valid < 100 || broken < 300 {
		t.Errorf("too few are still wirings, %d, or not, %d", valid, broken)
	}
}

func deepClone(all [][]int64) [][]int64 {
	var clone [][]int64
	for _, list := range all {
		clone = append(clone, slices.Clone(list))
	}
	return clone
}

// TestPromise8SmallLists tries all lists of few numbers as crossings and joints
// of three segments.
func TestPromise8SmallLists(t *testing.T) {
	var pairs, costs [][]int64
	for a := int64(-1); a <= 3; a++ {
		for b := int64(-1); b <= 3; b++ {
			pairs = append(pairs, []int64{a, b})
			for _, cost := range []int64{-1, 0, 1000, 1001} {
				costs = append(costs, []int64{a, b, cost})
			}
		}
	}
	valid := 0
	for _, all := range [][][]int64{pairs, costs} {
		for _, a := range all {
			for _, b := range all {
				w := wired(3, "", "", "")
				if len(a) == 2 {
					w.Crossings = [][]int64{a, b}
				} else {
					w.Joints = [][]int64{a, b}
				}
				is := isWiring(w)
				if impl.ValidWiring(w) != is {
					t.Errorf("wiring %v is not %t", w, is)
				}
				if is {
					valid++
				}
			}
		}
	}
	same(t, "valid wirings", valid, 3+15)
}

package tests

import (
	"math/rand"
	"slices"
	"testing"

	"loop.example/g01149/impl"
)

// checkRings compares groups and the odd ring with the document's rules, and
// returns the length of the ring.
func checkRings(t *testing.T, w impl.Wiring) int {
	t.Helper()
	groups, ok := impl.GroupsOf(w)
	same(t, "groups of "+brief(w), results(groups, ok), results(groupsByRule(w), true))
	want := ringByRule(w)
	ring, ok := impl.OddRing(w)
	same(t, "ring of "+brief(w), results(ring, ok), results(want, want != nil))
	return len(want)
}

func TestPromise8Rings(t *testing.T) {
	lengths := map[int]int{}
	for segments := range int64(7) {
		crossingsOver(segments, func(crossings [][]int64) {
			lengths[checkRings(t, impl.Wiring{Segments: segments, Crossings: crossings, Fixed: nowhereFixed(segments)})]++
		})
	}
	if lengths[0] < 1000 || lengths[3] < 10000 || lengths[5] < 500 {
		t.Errorf("too few rings of some length are tried: %v", lengths)
	}
}

// diceSegments has some of the segments from 0 to less than a number, in any
// order.
func diceSegments(dice *rand.Rand, below, count int) []int64 {
	var segments []int64
	for _, n := range dice.Perm(below)[:count] {
		segments = append(segments, int64(n))
	}
	return segments
}

// TestPromise8SomeRings has up to MaxSegments segments, some of them with a ring
// and few crossings more, so that not all of the odd rings are short.
func TestPromise8SomeRings(t *testing.T) {
	lengths := map[int]int{}
	dice := rand.New(rand.NewSource(139))
	for i := range 6000 {
		segments := 6 + i%9
		w := wired(int64(segments), "", "", "")
		more := dice.Intn(2 * segments)
		if i%2 == 0 {
			w.Crossings = ringOver(diceSegments(dice, segments, 5+dice.Intn(segments-4))...)
			more = dice.Intn(4)
		}
		for range more {
			w.Crossings = append(w.Crossings, slices.Sorted(slices.Values(diceSegments(dice, segments, 2))))
		}
		w.Crossings = inOrderOnce(w.Crossings)
		lengths[checkRings(t, w)]++
	}
	for length, few := range map[int]int{0: 2000, 3: 1000, 5: 500, 7: 200, 9: 100, 11: 40, 13: 10} {
		if lengths[length] < few {
			t.Errorf("too few rings of some length are tried: %v", lengths)
		}
	}
}

// TestPromise8OneRing has one ring of each length, also of those that are not
// odd, over any segments, and sometimes one that is as long beside it.
func TestPromise8OneRing(t *testing.T) {
	dice := rand.New(rand.NewSource(149))
	starts, ways := map[int64]int{}, map[bool]int{}
	for length := 3; length <= 14; length++ {
		for range 60 {
			names := diceSegments(dice, 14, 14)
			w := impl.Wiring{Segments: 14, Crossings: ringOver(names[:length]...), Fixed: nowhereFixed(14)}
			if length <= 7 && dice.Intn(3) == 0 {
				w.Crossings = inOrderOnce(append(w.Crossings, ringOver(names[length:2*length]...)...))
			}
			found := checkRings(t, w)
			same(t, "length of "+brief(w), found, length*(length%2))
			if ring, ok := impl.OddRing(w); ok {
				starts[ring[0]]++
				at := slices.Index(names, ring[0])
				ways[at < length && names[(at+1)%length] == ring[1]]++
			}
		}
	}
	if len(starts) < 8 || ways[true] < 100 || ways[false] < 100 {
		t.Errorf("too few starts or ways round: %v, %v", starts, ways)
	}
}

func TestPromise8RingsByHand(t *testing.T) {
	for _, row := range []struct {
		segments  int64
		crossings [][]int64
		ring      string
	}{
		{0, nil, ""},
		{1, nil, ""},
		{2, lists("0 1"), ""}, // two that cross are no ring
		{3, lists("0 1|0 2|1 2"), "0 1 2"},
		{3, lists("0 1|1 2"), ""},
		{14, lists("11 12|11 13|12 13"), "11 12 13"},
		{4, ringOver(0, 1, 2, 3), ""}, // rings with an even number
		{4, ringOver(0, 2, 1, 3), ""},
		{6, ringOver(0, 1, 2, 3, 4, 5), ""},
		{14, ringOver(0, 1, 2, 3, 4, 5, 6, 7, 8, 9, 10, 11, 12, 13), ""},
		{4, pairsOf(4), "0 1 2"}, // all cross
		{8, pairsOf(8), "0 1 2"},
		{5, ringOver(0, 1, 2, 3, 4), "0 1 2 3 4"},
		{5, ringOver(4, 3, 2, 1, 0), "0 1 2 3 4"},
		{5, ringOver(0, 2, 4, 1, 3), "0 2 4 1 3"},
		{5, ringOver(3, 0, 4, 1, 2), "0 3 2 1 4"},
		{7, ringOver(2, 6, 4, 3, 5), "2 5 3 4 6"}, // begins with 2
		{7, ringOver(0, 1, 2, 3, 4, 5, 6), "0 1 2 3 4 5 6"},
		{7, ringOver(0, 4, 2, 6, 1, 5, 3), "0 3 5 1 6 2 4"},
		{13, ringOver(0, 1, 2, 3, 4, 5, 6, 7, 8, 9, 10, 11, 12), "0 1 2 3 4 5 6 7 8 9 10 11 12"},
		{14, ringOver(13, 1, 2, 3, 4, 5, 6, 7, 8, 9, 10, 11, 12), "1 2 3 4 5 6 7 8 9 10 11 12 13"},
		{8, slices.Concat(ringOver(0, 1, 2, 3, 4), ringOver(5, 6, 7)), "5 6 7"}, // the shorter one
		{6, slices.Concat(ringOver(0, 1, 2), ringOver(3, 4, 5)), "0 1 2"},       // two as short
		{6, slices.Concat(ringOver(0, 4, 5), ringOver(1, 2, 3)), "0 4 5"},       // the first one of both
		{10, slices.Concat(ringOver(0, 6, 7, 8, 9), ringOver(1, 2, 3, 4, 5)), "0 6 7 8 9"},
		{5, lists("0 1|0 3|0 4|1 2|1 3|2 3|3 4"), "0 1 3"}, // rings that have segments in common
		{5, lists("0 1|0 4|1 2|1 3|2 3|3 4"), "1 2 3"},
		{6, lists("0 1|0 5|1 2|2 3|3 4|3 5|4 5"), "3 4 5"}, // a way to it from less segments
		{7, lists("0 1|1 2|2 3|3 4|4 5|4 6|5 6"), "4 5 6"},
		{7, lists("0 1|0 2|1 3|2 4|3 5|4 5|5 6"), ""},                  // a ring of six with an end
		{8, lists("0 1|0 2|1 3|2 4|3 5|4 6|5 6|6 7"), "0 1 3 5 6 4 2"}, // a ring of seven with an end
		{6, lists("0 1|0 5|1 2|2 3|2 4|3 4|4 5"), "2 3 4"},             // a ring of five around it, too
	} {
		w := impl.Wiring{Segments: row.segments, Crossings: inOrderOnce(row.crossings), Fixed: nowhereFixed(row.segments)}
		same(t, "valid "+brief(w), isWiring(w), true)
		checkRings(t, w)
		ring, ok := impl.OddRing(w)
		same(t, "ring of "+brief(w), results(ring, ok), results(numbers(row.ring), row.ring != ""))
	}
}

// TestPromise8RingsDespite has joints and fixed segments, which change neither
// groups nor rings.
func TestPromise8RingsDespite(t *testing.T) {
	for _, fixed := range []string{"", "0 0 0 0 0", "1 1 -1 0 1"} {
		for _, joints := range []string{"", "0 1 5|2 4 7", "0 3 0|0 4 1000|3 4 1"} {
			w := wired(5, "0 1|0 2|1 2", joints, fixed)
			ring, ok := impl.OddRing(w)
			same(t, "ring of "+brief(w), results(ring, ok), results(numbers("0 1 2"), true))
			groups, ok := impl.GroupsOf(w)
			same(t, "groups of "+brief(w), results(groups, ok), results(lists("0 1 2|3|4"), true))
		}
	}
}

func TestPromise8GroupsByHand(t *testing.T) {
	for _, row := range []struct {
		w      impl.Wiring
		groups string
	}{
		{wired(0, "", "", ""), ""},
		{wired(1, "", "", ""), "0"},
		{wired(3, "", "", ""), "0|1|2"}, // groups of one segment
		{wired(3, "", "0 1 5|1 2 5", ""), "0|1|2"},
		{wired(3, "0 1", "", ""), "0 1|2"},
		{wired(3, "1 2", "", ""), "0|1 2"},
		{wired(3, "0 2", "", ""), "0 2|1"},
		{wired(3, "0 2|1 2", "", ""), "0 1 2"}, // one group of all
		{wired(5, "0 4|1 3", "", ""), "0 4|1 3|2"},
		{wired(5, "0 4|1 3|3 4", "", ""), "0 1 3 4|2"},
		{wired(5, "2 4|3 4", "", ""), "0|1|2 3 4"},
		{wired(6, "0 5|1 4|2 3", "", ""), "0 5|1 4|2 3"},
		{wired(6, "0 5|1 4|2 3|2 4|3 5", "", ""), "0 1 2 3 4 5"}, // in a long row
		{wired(14, "0 13|1 13|2 13|3 13|4 13|5 13|6 13|7 13|8 13|9 13|10 13|11 13|12 13", "", ""), "0 1 2 3 4 5 6 7 8 9 10 11 12 13"},
		{wired(14, "6 13", "", ""), "0|1|2|3|4|5|6 13|7|8|9|10|11|12"},
	} {
		groups, ok := impl.GroupsOf(row.w)
		same(t, "groups of "+brief(row.w), results(groups, ok), results(lists(row.groups), true))
	}
}

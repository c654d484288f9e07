package tests

import (
	"fmt"
	"slices"
	"testing"

	"loop.example/g01149/impl"
)

func TestPromise4IsRouting(t *testing.T) {
	netKind().checkAll(t, 6, func(check func(impl.Channel)) {
		tinyChannels(check)
		smallChannels(1500, 4, check)
		smallChannels(60, 6, check)
	})
}

func TestPromise4WrongTracks(t *testing.T) {
	check := func(c impl.Channel) { netKind().checkChanged(t, c) }
	tinyChannels(check)
	smallChannels(100, 6, check)
	wideChannels(100, check)
}

func TestPromise4RoutingsByHand(t *testing.T) {
	netKind().checkByHand(t, []handRow{
		{"1 2 1", "2 0 0", "1|2", true},
		{"1 2 1", "2 0 0", "2|1", false},   // the order
		{"1 2 1", "2 0 0", "1 2", false},   // both spans have a column
		{"1 2 1", "2 0 0", "1", false},     // no track
		{"1 2 1", "2 0 0", "1|2|1", false}, // two tracks
		{"1 2 1", "2 0 0", "1|2|2", false},
		{"1 2 1", "2 0 0", "1 1|2", false},
		{"1 2 1", "2 0 0", "1||2", false}, // an empty track
		{"1 2 1", "2 0 0", "|1|2", false},
		{"1 2 1", "2 0 0", "1|2|", false},
		{"1 2 1", "2 0 0", "1|2|3", false}, // a net without pins
		{"1 2 1", "2 0 0", "0|1|2", false},
		{"1 2 1 5", "2 0 0 5", "1|2|5", false}, // a net in one column
		{"1 2 1 5", "2 0 0 5", "1 5|2", false},
		{"1 2 1 5", "2 0 0 5", "1|2", true},
		{"0", "0", "", true},
		{"1", "1", "", true},
		{"1", "1", "1", false},
		{"0", "0", " ", false}, // one track, which is empty
		{"1 1 2 2", "0 0 0 0", "1 2", true},
		{"1 1 2 2", "0 0 0 0", "2 1", false}, // not increasing
		{"1 1 2 2", "0 0 0 0", "2|1", true},
		{"1 1 0", "0 2 2", "1 2", false}, // they meet in a column
		{"1 1 0", "0 2 2", "1|2", true},
		{"12 12 1 1 7 7", "0 0 0 0 0 0", "1 7 12", true},
		{"12 12 1 1 7 7", "0 0 0 0 0 0", "1 12|7", true},
		{"12 12 1 1 7 7", "0 0 0 0 0 0", "1 12 7", false},
		{"1 2", "2 1", "1|2", false}, // a cycle
		{"1 2", "2 1", "2|1", false},
		{"1 3 3 2", "1 1 2 0", "3|1 2", true}, // both must be behind 3, and have no column in common
		{"1 1 2 2", "0 2 3 3", "1|2|3", true},
		{"1 1 2 2", "0 2 3 3", "1 3|2", false}, // 1 and 3 have no column in common, but 2 must be between them
	})
}

// leftEdgeOf takes the nets one by one, as the rule of the left edge tells.
func leftEdgeOf(c impl.Channel) [][]int64 {
	spans := wholePieces(c)
	var tracks [][]int64
	for len(spans) > 0 {
		var track []int64
		end := int64(-1)
		for {
			best := int64(0)
			for _, net := range keysOf(spans) {
				if spans[net][1] > end && (best == 0 || spans[net][1] < spans[best][1]) {
					best = net
				}
			}
			if best == 0 {
				break
			}
			track = append(track, best)
			end = spans[best][2]
			delete(spans, best)
		}
		slices.Sort(track)
		tracks = append(tracks, track)
	}
	return tracks
}

func TestPromise4LeftEdge(t *testing.T) {
	several := 0
	check := func(c impl.Channel) {
		tracks, ok := impl.LeftEdge(c)
		if _, chain := leastCycle(c); chain > 1 {
			same(t, "no left edge of "+brief(c), results(tracks, ok), results(lists(""), false))
			return
		}
		same(t, "left edge of "+brief(c), results(tracks, ok), results(leftEdgeOf(c), true))
		density, _ := impl.DensityOf(c)
		fewest, _ := impl.FewestTracks(c)
		same(t, "tracks of "+brief(c), results(len(tracks), len(fewest)), results(density, density))
		same(t, "left edge is routing of "+brief(c), impl.IsRouting(c, tracks), true)
		if len(tracks) > 2 {
			several++
		}
	}
	tinyChannels(check)
	// Without pins below, no net must be above another one.
	oneRow := func(c impl.Channel) {
		row := slices.Concat(c.Top, c.Bottom)
		row = row[:min(impl.MaxColumns, len(row))]
		one := impl.Channel{Top: row, Bottom: make([]int64, len(row))}
		dropSingles(one)
		check(one)
	}
	wideChannels(2000, oneRow)
	smallChannels(1000, 3, oneRow)
	smallChannels(2000, 6, check)
	wideChannels(1000, check)
	if several < 100 {
		t.Errorf("only %d have several tracks", several)
	}
}

func TestPromise4LeftEdgeByHand(t *testing.T) {
	for _, row := range []struct {
		top, bottom string
		tracks      string
	}{
		{"0", "0", ""},
		{"1", "1", ""},
		{"7 7", "7 7", "7"},
		{"1 1 2 2 3 0", "0 0 0 0 0 3", "1 2 3"},
		{"3 0 2 2 1 1", "0 3 0 0 0 0", "1 2 3"},
		{"2 1 2 0 1", "0 0 0 0 0", "2|1"}, // 2 begins first, though 1 is less
		{"2 0 1 2 0 1 3 3", "0 0 0 0 0 0 0 0", "2 3|1"},
		{"1 2 1 2 1 3 3", "0 0 0 0 0 0 0", "1 3|2"}, // the first track gets all that fit
		{"1 1 0 3 3", "0 0 0 0 0", "1 3"},
		{"2 9 2 4 4 9", "0 0 0 0 0 0", "2 4|9"},
		{"5 5 5", "5 0 5", "5"}, // the same net at top and bottom
		{"1 6 1", "0 6 0", "1"}, // the net 6 needs no track
	} {
		c := channel(row.top, row.bottom)
		tracks, ok := impl.LeftEdge(c)
		same(t, "left edge of "+brief(c), results(tracks, ok), results(lists(row.tracks), true))
	}
	all := impl.Channel{Top: append(counting(1, 12), counting(1, 12)...), Bottom: make([]int64, 24)}
	tracks, ok := impl.LeftEdge(all)
	same(t, "left edge of all nets", results(tracks, ok), results(lists("1|2|3|4|5|6|7|8|9|10|11|12"), true))
	slices.Reverse(all.Top)
	tracks, ok = impl.LeftEdge(all)
	same(t, "left edge of all nets", results(tracks, ok), results(lists("12|11|10|9|8|7|6|5|4|3|2|1"), true))
	_, ok = impl.LeftEdge(channel("1 2 1", "2 0 0"))
	same(t, "left edge with an order", ok, false)
}

func TestPromise4FewestTracks(t *testing.T) {
	more, few := 0, 0
	check := func(c impl.Channel) {
		want, found := fewestOfAll(c, wholePieces(c))
		tracks, ok := impl.FewestTracks(c)
		same(t, "fewest tracks of "+brief(c), results(tracks, ok), results(want, found))
		if cycle, _ := leastCycle(c); found != (cycle == nil) {
			t.Errorf("%v has a routing, %v, or a cycle, %v", c, found, cycle)
		}
		density, _ := impl.DensityOf(c)
		chain, _ := impl.LongestChain(c)
		if found && int64(len(tracks)) > max(density, chain) {
			more++
		}
		if len(tracks) > 1 && len(tracks) < len(netsIn(c)) {
			few++
		}
	}
	tinyChannels(check)
	smallChannels(2000, 4, check)
	smallChannels(600, 5, check)
	smallChannels(120, 6, check)
	if more < 5 || few < 200 {
		t.Errorf("too few channels need more tracks than they must, %d, or share tracks, %d", more, few)
	}
}

// TestPromise4FewestTracksWide has more nets than for which all tracks can be
// tried: it tries whether one track less suffices.
func TestPromise4FewestTracksWide(t *testing.T) {
	more := 0
	check := func(c impl.Channel) {
		pieces := wholePieces(c)
		tracks, ok := impl.FewestTracks(c)
		cycle, cyclic := impl.CycleOf(c)
		if ok == cyclic {
			t.Errorf("%v has tracks %v and the cycle %v", c, tracks, cycle)
		}
		if !ok {
			return
		}
		same(t, fmt.Sprint("routing of ", c, " by ", tracks), results(impl.IsRouting(c, tracks), keepRules(c, pieces, tracks)), results(true, true))
		density, _ := impl.DensityOf(c)
		chain, _ := impl.LongestChain(c)
		least := max(density, chain)
		if int64(len(tracks)) < least {
			t.Errorf("%v has the fewest tracks %v, but density and chain are %d and %d", c, tracks, density, chain)
		}
		if int64(len(tracks)) > least {
			more++
			same(t, "less tracks of "+brief(c), fitInto(c, pieces, len(tracks)-1), false)
		}
	}
	wideChannels(3000, check)
	sparseChannels(1500, check)
	if more < 20 {
		t.Errorf("only %d channels need more tracks than they must", more)
	}
}

func TestPromise4FewestTracksByHand(t *testing.T) {
	netKind().checkFewestByHand(t, []handRow{
		{"0", "0", "", true},
		{"1", "1", "", true},
		{"1 2 1", "2 0 0", "1|2", true},
		{"2 1 2", "1 0 0", "2|1", true},
		{"1 1 2 2", "0 0 0 0", "1 2", true},
		{"1 2 1 2", "0 0 0 0", "1|2", true},                   // several with as few tracks
		{"2 1 2 0 1", "0 0 0 0 0", "1|2", true},               // not that of the left edge
		{"2 0 1 2 0 1 3 3", "0 0 0 0 0 0 0 0", "1|2 3", true}, // {1} is less than {1, 3}
		{"1 2 1 2 1 3 3", "0 0 0 0 0 0 0", "1|2 3", true},
		{"12 12 0", "0 1 1", "12|1", true}, // they meet in a column
		{"3 3 0 0", "0 2 2 2", "3|2", true},
		{"12 1 12", "12 1 12", "12", true},
		{"1 2 3 4 5 6 7 8 9 10 11 1", "2 3 4 5 6 7 8 9 10 11 12 12", "1|2|3|4|5|6|7|8|9|10|11|12", true},
	})
	pairs := impl.Channel{Top: make([]int64, 24), Bottom: make([]int64, 24)}
	for i := range pairs.Top {
		pairs.Top[i] = int64(12 - i/2)
	}
	tracks, ok := impl.FewestTracks(pairs)
	same(t, "one track", results(tracks, ok), results(lists("1 2 3 4 5 6 7 8 9 10 11 12"), true))
	all := impl.Channel{Top: append(counting(1, 12), counting(1, 12)...), Bottom: make([]int64, 24)}
	slices.Reverse(all.Top)
	tracks, ok = impl.FewestTracks(all)
	same(t, "tracks of all nets", results(tracks, ok), results(lists("1|2|3|4|5|6|7|8|9|10|11|12"), true))
}

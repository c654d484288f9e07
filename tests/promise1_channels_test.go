package tests

import (
	"fmt"
	"math"
	"slices"
	"strings"
	"testing"

	"loop.example/g01149/impl"
)

func strangeChannels() []impl.Channel {
	list := []impl.Channel{
		{}, {Top: []int64{}, Bottom: []int64{}}, channel("0", "0"), channel("1", "1"), channel("1", "2"), channel("12 12", "0 0"),
		channel("1 2 1", "2 0 0"), channel("1 2", "2 1"), channel("1 2 0 1", "0 1 2 2"), channel("1 1 2 2 3 0", "0 0 0 0 0 3"),
		channel("3 3 1 1", "0 0 0"), channel("3 3 1", "0 0 0 1"), channel("13 13", "0 0"), channel("-1 -1", "0 0"),
		{Top: counting(1, 12), Bottom: append(counting(2, 11), 1)}, {Top: counting(1, 12), Bottom: counting(1, 12)},
		{Top: slices.Repeat([]int64{1}, 24), Bottom: slices.Repeat([]int64{2}, 24)}, {Top: make([]int64, 24), Bottom: make([]int64, 24)},
		{Top: slices.Repeat([]int64{1}, 13), Bottom: make([]int64, 13)}, {Top: slices.Repeat([]int64{1}, 14), Bottom: make([]int64, 14)},
		{Top: make([]int64, 25), Bottom: make([]int64, 25)}, {Top: make([]int64, 100000), Bottom: make([]int64, 100000)},
		{Top: []int64{1, 1}}, {Bottom: []int64{1, 1}},
	}
	for _, n := range []int64{13, -1, math.MinInt64, math.MaxInt64, 64, -64} {
		list = append(list, impl.Channel{Top: []int64{n, 0, 1}, Bottom: []int64{0, n, 1}}, impl.Channel{Top: []int64{1, 1}, Bottom: []int64{n, n}})
	}
	wideChannels(40, func(c impl.Channel) { list = append(list, c) })
	return list
}

func strangeTracks() [][][]int64 {
	return [][][]int64{
		nil, {}, {nil}, {{}, {1}}, {{1}, {2}}, {{2}, {1}}, {{1, 2}}, {{2, 1}}, {{1, 1}}, {{1}, {1}}, {{2}, {0, 1}, {3}}, {{0}, {1}}, {{1, 2, 3}},
		{{0}}, {{-1}}, {{13}}, {{64}}, {{65}}, {{math.MinInt64}}, {{math.MaxInt64}}, {{math.MinInt64, 1}}, {{1, math.MaxInt64}},
		{counting(0, 12)}, {counting(1, 12)}, {counting(0, 23), counting(23, 23)}, {counting(0, 64)},
	}
}

func hugeTracks() [][][]int64 {
	return [][][]int64{{counting(0, 100000)}, slices.Repeat([][]int64{{1}}, 10000), slices.Repeat([][]int64{nil}, 10000)}
}

func callsOfChannel(c impl.Channel) []call {
	top, bottom := guard(c.Top, 43), guard(c.Bottom, 44)
	g := impl.Channel{Top: top.list, Bottom: bottom.list}
	changed := func() bool { return top.changed() || bottom.changed() }
	channel := brief(c)
	var calls []call
	add := func(name string, reports bool, run func() []any) {
		calls = append(calls, call{name + " of " + channel, reports, run, changed})
	}
	add("ValidChannel", true, func() []any { return results(impl.ValidChannel(g)) })
	add("NetsOf", false, func() []any { a, ok := impl.NetsOf(g); return results(a, ok) })
	add("DensityOf", false, func() []any { a, ok := impl.DensityOf(g); return results(a, ok) })
	add("CycleOf", false, func() []any { a, ok := impl.CycleOf(g); return results(a, ok) })
	add("LongestChain", false, func() []any { a, ok := impl.LongestChain(g); return results(a, ok) })
	add("LeftEdge", false, func() []any { a, ok := impl.LeftEdge(g); return results(a, ok) })
	add("FewestTracks", false, func() []any { a, ok := impl.FewestTracks(g); return results(a, ok) })
	add("PiecesOf", false, func() []any { a, ok := impl.PiecesOf(g); return results(a, ok) })
	add("FewestWithDoglegs", false, func() []any { a, ok := impl.FewestWithDoglegs(g); return results(a, ok) })
	add("ChannelText", false, func() []any { a, ok := impl.ChannelText(g); return results(a, ok) })
	for _, n := range []int64{0, 1, 2, 12, 13, 23, 24, 63, 64, 65, -1, -64, math.MinInt64, math.MaxInt64} {
		add(fmt.Sprint("SpanOf ", n), false, func() []any { a, b, ok := impl.SpanOf(g, n); return results(a, b, ok) })
		add(fmt.Sprint("DensityAt ", n), false, func() []any { a, ok := impl.DensityAt(g, n); return results(a, ok) })
		for _, m := range []int64{1, 2, 0, 12, 64, -1, math.MinInt64, math.MaxInt64} {
			add(fmt.Sprint("MustBeAbove ", n, m), true, func() []any { return results(impl.MustBeAbove(g, n, m), impl.MustBeAbove(g, m, n)) })
		}
	}
	for _, tracks := range strangeTracks() {
		calls = append(calls, trackCall(c, tracks))
	}
	return calls
}

func trackCall(c impl.Channel, given [][]int64) call {
	top, bottom := guard(c.Top, 43), guard(c.Bottom, 44)
	g := impl.Channel{Top: top.list, Bottom: bottom.list}
	tracks, tracksChanged := guardLists(given, 45)
	changed := func() bool { return top.changed() || bottom.changed() || tracksChanged() }
	run := func() []any { return results(impl.IsRouting(g, tracks), impl.IsPieceRouting(g, tracks)) }
	return call{"IsRouting, IsPieceRouting of " + brief(c) + " by " + brief(given), true, run, changed}
}

func channelTextCalls() []call {
	var calls []call
	texts := []string{"/", "0/0", "1,2,1/2,0,0", "1/1", "1/2", "none/none", "none/1", "1/none", "1,1/0,0/", "/1,1/0,0", "1,1//0,0", "1,1/0",
		strings.Repeat("/", 1000000), strings.Repeat("0,", 1000000) + "0/0", "0/" + strings.Repeat("0,", 1000000),
		strings.Repeat("0,", 1000000), strings.Repeat("0/", 1000000), strings.Repeat("\xff", 1000) + "/0"}
	for _, s := range append(strangeTexts(), texts...) {
		run := func() []any { a, ok := impl.ReadChannel(s); return results(a, ok) }
		calls = append(calls, call{fmt.Sprintf("ReadChannel(%.60q)", s), false, run, unchangeable})
	}
	return calls
}

func TestPromise1Channels(t *testing.T) {
	calls := channelTextCalls()
	for _, c := range strangeChannels() {
		calls = append(calls, callsOfChannel(c)...)
	}
	for _, tracks := range hugeTracks() {
		calls = append(calls, trackCall(channel("1 2 1", "2 0 0"), tracks), trackCall(channel("1 1", "2 2"), tracks))
	}
	checkCalls(t, calls)
}

// TestPromise1ChannelsOneRow has the same memory for both rows, and for tracks.
func TestPromise1ChannelsOneRow(t *testing.T) {
	row := []int64{1, 2, 1, 2}
	c := impl.Channel{Top: row, Bottom: row}
	tracks, ok := impl.FewestTracks(c)
	same(t, "tracks", results(tracks, ok), results(lists("1|2"), true))
	tracks, ok = impl.FewestWithDoglegs(c)
	same(t, "pieces", results(tracks, ok), results(lists("0|1"), true))
	same(t, "routing", impl.IsRouting(c, [][]int64{row[:1], row[1:2]}), true)
	same(t, "no routing", impl.IsRouting(c, [][]int64{row[:2], row[:2]}), false)
	same(t, "row", row, []int64{1, 2, 1, 2})
}

// TestPromise1ChannelsSeveral calls functions from several goroutines.
func TestPromise1ChannelsSeveral(t *testing.T) {
	c := channel("1 2 0 1", "0 1 2 2")
	all := make(chan string)
	for range 8 {
		go func() {
			cycle, _ := impl.CycleOf(c)
			tracks, _ := impl.FewestWithDoglegs(c)
			read, _ := impl.ReadChannel("3,0/0,3")
			all <- fmt.Sprint(cycle, tracks, read)
		}()
	}
	for range 8 {
		same(t, "several", <-all, "[1 2] [[2] [0 1] [3]] {[3 0] [0 3]}")
	}
}

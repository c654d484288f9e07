package tests

import (
	"fmt"
	"math/rand"
	"slices"
	"strings"
	"testing"

	"loop.example/g01149/impl"
)

// checkPointsLines compares what a desk outputs for points with what the functions
// of chapter 5 return, and with the tests' own rules. It returns the outputs.
func checkPointsLines(t *testing.T, list []impl.Point) []string {
	t.Helper()
	d := impl.Desk{Names: []string{"p"}, Lists: [][]impl.Point{list}}
	after, output, ok := impl.RunDesk(d, "span p\nbox p\nsteiner p\nbends p\nmore q p\nshow p\nshow q\n")
	want := slices.Repeat([]string{"no"}, 7)
	if _, length, ok := impl.SpanningTree(list); ok {
		want[0] = fmt.Sprint(length)
	}
	if bound, ok := impl.BoxBound(list); ok {
		want[1] = fmt.Sprint(bound)
	}
	if length, ok := impl.SteinerLength(list); ok {
		want[2] = fmt.Sprint(length)
	}
	if choice, steps, ok := impl.BendTree(list); ok {
		want[3] = fmt.Sprint(choice, " ", steps)
		if choice == "" {
			want[3] = "none 0"
		}
	}
	lists := [][]impl.Point{list}
	if further, length, ok := impl.OneByOne(list); ok {
		want[4] = fmt.Sprint(length)
		lists = append(lists, join(list, further))
		want[6] = textOf(lists[1])
	}
	want[5] = textOf(list)
	names := []string{"p", "q"}[:len(lists)]
	what := "outputs for " + brief(list)
	same(t, what, results(after, output, ok), results(impl.Desk{Names: names, Lists: lists}, scriptOf(want...), true))
	checkWithOwnRules(t, list, linesIn(output))
	return linesIn(output)
}

func checkWithOwnRules(t *testing.T, list []impl.Point, said []string) {
	t.Helper()
	what := "by rule for " + brief(list)
	if !arePins(list) {
		same(t, what, said[:5], slices.Repeat([]string{"no"}, 5))
		return
	}
	_, length := treeByRule(list)
	same(t, what, said[:2], results(length, boxLength(list)))
	if len(list) > 7 {
		same(t, what, said[2:5], slices.Repeat([]string{"no"}, 3))
		return
	}
	choice, steps, _ := bendByHand(list)
	if len(list) == 1 {
		choice = "none"
	}
	same(t, what, said[3], fmt.Sprint(choice, " ", steps))
}

// boxLength compares all pairs of points.
func boxLength(list []impl.Point) int64 {
	width, height := int64(0), int64(0)
	for _, p := range list {
		for _, q := range list {
			width, height = max(width, p.X-q.X), max(height, p.Y-q.Y)
		}
	}
	return width + height
}

func TestPromise13Points(t *testing.T) {
	for count := range 5 {
		listsOver(square(3), count, func(list []impl.Point) {
			if count < 4 || list[0] == list[1] || far(list[0], list[3]) == 3 {
				checkPointsLines(t, slices.Clone(list))
			}
		})
	}
}

func TestPromise13SomePoints(t *testing.T) {
	dice := lineDice{rand.New(rand.NewSource(293))}
	most := map[string]int{}
	further := 0
	severalPins(120, 24, func(_ *rand.Rand, list []impl.Point) {
		said := checkPointsLines(t, list)
		most[said[0]]++
		most[said[2]]++
	})
	severalPins(300, 7, func(_ *rand.Rand, list []impl.Point) {
		said := checkPointsLines(t, list)
		if said[5] != said[6] {
			further++
		}
	})
	for range 300 {
		if list := dice.points(); len(list) <= 24 {
			checkPointsLines(t, list)
		}
	}
	if most["no"] < 100 || further < 200 {
		t.Errorf("too few have too many points, %d, or further points, %d", most["no"], further)
	}
}

func TestPromise13PointsByHand(t *testing.T) {
	seven, twenty := "0.0,4.0,8.0,0.4,8.4,4.8,0.8", textOf(square(5)[:20])
	for _, row := range []struct {
		points                          string
		span, box, steiner, bends, more string
		further                         string
	}{
		{"0.0,2.0,1.2", "5", "4", "4", "xx 4", "4", ",1.0"}, // the document's example
		{"5.7", "0", "0", "0", "none 0", "0", ""},
		{"5.7,2.8", "4", "4", "4", "x 4", "4", ""},
		{"0.99,99.0", "198", "198", "198", "x 198", "198", ""},
		{"1.0,0.1,2.1,1.2", "6", "4", "4", "yyx 4", "4", ",1.1"},
		{seven, "24", "16", "24", "xxxxxx 24", "24", ""},
		{seven + ",8.8", "28", "16", "no", "no", "no", ""}, // one more than MaxEnds
		{twenty, "19", "7", "no", "no", "no", ""},          // MaxAll, and one more
		{twenty + ",9.9", "no", "no", "no", "no", "no", ""},
		{textOf(square(5)[:24]), "no", "no", "no", "no", "no", ""},
		{"none", "no", "no", "no", "no", "no", ""},    // no points
		{"3.4,3.4", "no", "no", "no", "no", "no", ""}, // equal ones
		{"0.0,2.0,0.0", "no", "no", "no", "no", "no", ""},
	} {
		before := "p " + row.points
		checkLineRows(t, []lineRow{
			{before, "span p", row.span, unchanged},
			{before, "box p", row.box, unchanged},
			{before, "steiner p", row.steiner, unchanged},
			{before, "bends p", row.bends, unchanged},
		})
		if row.more == "no" {
			checkLineRows(t, []lineRow{{before, "more p p", "no", unchanged}, {before, "more q p", "no", unchanged}})
		} else {
			checkLineRows(t, []lineRow{
				{before, "more p p", row.more, before + row.further},
				{before, "more q p", row.more, before + "|q " + row.points + row.further},
				{before + "|a none|q 9.9|z 1.1", "more q p", row.more, "a none|" + before + "|q " + row.points + row.further + "|z 1.1"},
			})
		}
		checkPointsLines(t, deskOf(before).Lists[0])
	}
}

func TestPromise13NamesByHand(t *testing.T) {
	checkLineRows(t, []lineRow{
		{three, "span b", "no", unchanged}, // names that there are not
		{three, "box b", "no", unchanged},
		{three, "steiner b", "no", unchanged},
		{three, "bends b", "no", unchanged},
		{three, "more a b", "no", unchanged},
		{three, "more b b", "no", unchanged},
		{"", "span a", "no", unchanged},
		{three, "span ", "no", unchanged},
		{three, "bends A", "no", unchanged},
		{three, "more A a", "no", unchanged}, // no names
		{three, "more  a", "no", unchanged},
		{three, "more abcdefghi a", "no", unchanged},
		{three, "more a ", "no", unchanged},
		{six, "more g a", "no", unchanged}, // one more than MaxNamed
		{six, "more b a", "0", "a 0.0|b 0.0|c 1.1|d 2.2,2.2|e 3.3|f 4.4"},
		{six, "more a b", "no", unchanged},
		{six, "more a d", "no", unchanged},
		{three, "span", "what", unchanged},
		{three, "span a a", "what", unchanged},
		{three, "box a 3", "what", unchanged},
		{three, "steiner", "what", unchanged},
		{three, "bends a ", "what", unchanged},
		{three, "more a", "what", unchanged},
		{three, "more a a a", "what", unchanged},
	})
}

// checkChannelLines compares what a desk outputs for a channel with what the
// functions of chapter 3 return. It returns the outputs.
func checkChannelLines(t *testing.T, c impl.Channel) []string {
	t.Helper()
	text := textOfChannel(c)
	after, output, ok := impl.RunDesk(deskOf(three), scriptOf("tracks "+text, "density "+text, "cycle "+text))
	want := []string{"no", "no", "free"}
	if tracks, ok := impl.FewestTracks(c); ok {
		var texts []string
		for _, track := range tracks {
			texts = append(texts, commas(track))
		}
		want[0] = strings.Join(texts, "/")
		if len(tracks) == 0 {
			want[0] = "none"
		}
	}
	if density, ok := impl.DensityOf(c); ok {
		want[1] = fmt.Sprint(density)
	}
	if cycle, ok := impl.CycleOf(c); ok {
		want[2] = commas(cycle)
	}
	if !isChannel(c) {
		want[2] = "no"
	}
	same(t, "outputs for "+text, results(after, output, ok), results(deskOf(three), scriptOf(want...), true))
	if (want[0] == "no") != (want[2] != "free") {
		t.Errorf("%s has the tracks %s and the cycle %s", text, want[0], want[2])
	}
	return want
}

func TestPromise13Channels(t *testing.T) {
	seen := map[string]int{}
	check := func(c impl.Channel) {
		said := checkChannelLines(t, c)
		seen["tracks "+said[0]]++
		if said[2] != "free" {
			seen["cycle"]++
		}
	}
	tinyChannels(check)
	wideChannels(600, check)
	ringChannels(200, check)
	sparseChannels(200, check)
	channelsIn(2, 2, func(c impl.Channel) {
		if !isChannel(c) {
			seen["wrong"]++
			same(t, "outputs for "+brief(c), checkChannelLines(t, c), slices.Repeat([]string{"no"}, 3))
		}
	})
	if min(seen["tracks no"], seen["tracks none"], seen["tracks 1"], seen["tracks 1/2"], seen["cycle"]) < 20 || seen["wrong"] == 0 {
		t.Errorf("too few of some kind are tried: %v", seen)
	}
}

func TestPromise13ChannelsByHand(t *testing.T) {
	many := strings.TrimSuffix(strings.Repeat("0,", 24), ",")
	for _, row := range []struct{ text, tracks, density, cycle string }{
		{"1,2,1/2,0,0", "1/2", "2", "free"}, // the document's example
		{"0/0", "none", "0", "free"},        // without nets
		{"0,0,0/0,0,0", "none", "0", "free"},
		{"1/1", "none", "0", "free"}, // with a net that needs no track
		{"1,2/1,2", "none", "0", "free"},
		{"1,1/0,0", "1", "1", "free"},
		{"1,1,2,2/0,0,0,0", "1,2", "1", "free"},
		{"12,12,2,2/0,0,0,0", "2,12", "1", "free"},
		{"2,2,0/1,0,1", "2/1", "2", "free"},
		{"1,0,2,2,3,0/0,1,0,3,0,3", "1,2/3", "2", "free"},
		{"1,2/2,1", "no", "2", "1,2"}, // a cycle
		{"2,1/1,2", "no", "2", "1,2"},
		{"1,2,3/2,3,1", "no", "3", "1,2,3"},
		{"1,3,2/3,2,1", "no", "3", "1,3,2"},
		{"1,2,0,1/0,1,2,2", "no", "2", "1,2"},
		{many + "/" + many, "none", "0", "free"}, // MaxColumns, and one more
		{many + ",0/" + many + ",0", "no", "no", "no"},
		{"", "no", "no", "no"}, // no channels
		{"/", "no", "no", "no"},
		{"none/none", "no", "no", "no"},
		{"none", "no", "no", "no"},
		{"0", "no", "no", "no"},
		{"1/0", "no", "no", "no"},
		{"1,2/2,0", "no", "no", "no"},
		{"1,1/0", "no", "no", "no"},
		{"1,1/0,0,0", "no", "no", "no"},
		{"13,13/0,0", "no", "no", "no"},
		{"-1,-1/0,0", "no", "no", "no"},
		{"01,1/0,0", "no", "no", "no"},
		{"+1,1/0,0", "no", "no", "no"},
		{"1,1/0,0/0,0", "no", "no", "no"},
		{"1,1/0,0,", "no", "no", "no"},
		{"0.0", "no", "no", "no"},
		{"a", "no", "no", "no"}, // the name of a list
		{"0/0\n", "no", "no", "no"},
		{"1,1|0,0", "no", "no", "no"},
	} {
		for _, before := range []string{"", three} {
			checkLineRows(t, []lineRow{
				{before, "tracks " + row.text, row.tracks, unchanged},
				{before, "density " + row.text, row.density, unchanged},
				{before, "cycle " + row.text, row.cycle, unchanged},
				{before, "tracks " + row.text + " ", "what", unchanged},
				{before, "density " + row.text + " " + row.text, "what", unchanged},
				{before, "cycle  " + row.text, "what", unchanged},
			})
		}
	}
	for _, word := range []string{"tracks", "density", "cycle"} {
		checkLineRows(t, []lineRow{{three, word, "what", unchanged}, {three, word + " 1,1 / 0,0", "what", unchanged}, {three, strings.ToUpper(word) + " 1,1/0,0", "what", unchanged}})
	}
}

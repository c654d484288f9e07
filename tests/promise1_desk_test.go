package tests

import (
	"fmt"
	"math"
	"math/rand"
	"runtime"
	"slices"
	"strings"
	"testing"
	"time"

	"loop.example/g01149/impl"
)

// strangeDesks has desks, and others that are not valid.
func strangeDesks() []impl.Desk {
	all := []impl.Desk{
		{}, {Names: []string{}, Lists: [][]impl.Point{}}, {Names: []string{"a"}}, {Lists: [][]impl.Point{nil}}, deskOf(three), deskOf(six), deskOf("a none"), deskOf("a 0.0,0.2|b 0.0,0.1,0.2|none none"),
		named("b", "a"), named("a", "a"), named(""), named("A"), named("\xff"), named(strings.Repeat("a", 1000000)), named(strings.Split("abcdefg", "")...), named("a", "b", "c", "d", "e", "f"),
		listed(square(5)), listed(square(5)[:24]), listed(nil, repeated(impl.Point{X: 1, Y: 1}, 100000)), listed(slices.Repeat([][]impl.Point{square(5)[:24]}, 6)...),
		{Names: []string{"a"}, Lists: [][]impl.Point{at(1, 1), at(2, 2)}}, {Names: make([]string, 1000), Lists: make([][]impl.Point, 1000)}, {Names: slices.Repeat([]string{"a"}, 100000), Lists: [][]impl.Point{nil}},
	}
	for _, p := range strangers() {
		all = append(all, listed([]impl.Point{p}), listed(at(1, 1), []impl.Point{{X: 1, Y: 1}, p}))
	}
	dice := lineDice{rand.New(rand.NewSource(307))}
	for range 12 {
		all = append(all, dice.shelf(8).desk())
	}
	return all
}

func strangeLines() []string {
	all := []string{
		"", " ", "   ", "\n", "\x00", "\xff", "what", "set", "set a 0.0", "set a none", "set z 1.1,2.2", "set  ", "set a ", "set A 0.0", "set a 100.0", "drop a", "drop b", "drop ", "drop a\n", "show a", "show none", "path a a", "path z a", "path b a",
		"span a", "box a", "steiner a", "bends a", "more a a", "more z a", "more a b", "draw a 3 3", "draw a 40 40", "draw a 0 1", "draw a 41 1", "draw a -1 1", "draw a 9223372036854775807 9223372036854775808", "draw a x y",
		"tracks 1,2,1/2,0,0", "tracks 1,2/2,1", "tracks 0/0", "tracks ", "density 1,1/0,2", "density 0/0", "cycle 1,2/2,1", "cycle 0/0", "cycle x", "größe", "set é 0.0", "draw a \xff \xfe",
	}
	for _, long := range []string{" ", "a", "set ", "0.0,", "1,", "\n", "\xff"} {
		all = append(all, strings.Repeat(long, 200000/len(long)), "set a "+strings.Repeat(long, 100000/len(long)), "tracks "+strings.Repeat(long, 100000/len(long)))
	}
	return all
}

func strangeScripts() []string {
	all := []string{
		"", "\n", "\n\n", "a", "drop a", "drop a\n", "drop a\ndrop b\n\n", "set a 0.0\nset b 1.1\nmore c a\nshow c", strings.Repeat("\n", 3999), strings.Repeat("\n", 4000), strings.Repeat("\n", 4001), strings.Repeat("a", 4000), strings.Repeat("a", 3999) + "\n", strings.Repeat("a", 4000) + "\n",
		strings.Repeat("set a 0.0\n", 1000000), strings.Repeat("\xff\n", 2000), strings.Repeat("draw a 40 40\n", 300), strings.Repeat("set a 1.1\ndrop a\n", 200),
		scriptOf("set a 1.1", "set b 1.1", "set c 1.1", "set d 1.1", "set e 1.1", "set f 1.1", "set g 1.1", "more a b", "path c d", "drop e"),
	}
	dice := lineDice{rand.New(rand.NewSource(311))}
	for range 12 {
		all = append(all, dice.script(100, 3000))
	}
	return all
}

// guardDesk guards the names, each list, and the list of them.
func guardDesk(d impl.Desk) (impl.Desk, func() bool) {
	names := guard(d.Names, "spare")
	lists, changed := guardLists(d.Lists, impl.Point{X: 51, Y: 52})
	return impl.Desk{Names: names.list, Lists: lists}, func() bool { return names.changed() || changed() }
}

func callsOfDesk(given impl.Desk) []call {
	d, changed := guardDesk(given)
	of := brief(" with ", len(d.Names), " names and ", len(d.Lists), " lists ", d.Names[:min(len(d.Names), 9)])
	calls := []call{{"ValidDesk" + of, true, func() []any { return results(impl.ValidDesk(d)) }, changed}}
	for _, line := range strangeLines() {
		calls = append(calls, call{fmt.Sprintf("DeskCommand %.60q", line) + of, false, func() []any { a, s, ok := impl.DeskCommand(d, line); return results(a, s, ok) }, changed})
	}
	for _, script := range strangeScripts() {
		calls = append(calls, call{fmt.Sprintf("RunDesk %.60q", script) + of, false, func() []any { a, s, ok := impl.RunDesk(d, script); return results(a, s, ok) }, changed})
	}
	return calls
}

func TestPromise1Desk(t *testing.T) {
	for _, d := range strangeDesks() {
		checkCalls(t, callsOfDesk(d))
	}
}

func TestPromise1Pictures(t *testing.T) {
	sides := []int64{math.MinInt64, -41, -1, 0, 1, 2, 39, 40, 41, 64, 1 << 32, 1<<32 + 1, math.MaxInt64}
	var calls []call
	for _, list := range strangeLists() {
		g := guard(list, impl.Point{X: 41, Y: 42})
		for _, width := range sides {
			for _, height := range sides {
				run := func() []any { a, ok := impl.PictureOf(g.list, width, height); return results(a, ok) }
				calls = append(calls, call{brief("PictureOf ", width, " by ", height, " of ", list[:min(len(list), 9)]), false, run, g.changed})
			}
		}
	}
	checkCalls(t, calls)
}

func TestPromise1Journals(t *testing.T) {
	dice := lineDice{rand.New(rand.NewSource(313))}
	lists := [][]string{nil, {}, {""}, {"", ""}, {"a", "b"}, {"\n"}, {"a", "b\n", "c"}, {"\xff", "\x00", "é"}, make([]string, 1333), make([]string, 1334), make([]string, 100000), {strings.Repeat("a", 3993)}, {strings.Repeat("a", 4000)}, {strings.Repeat("\xff", 1000000)}, strangeLines()}
	texts := strangeTexts()
	for range 30 {
		all := dice.someLines(9)
		lists = append(lists, all)
		texts = append(texts, journalByRule(all), journalByRule(all)+"x", strings.Replace(journalByRule(all), "a", "b", 1))
	}
	var calls []call
	for _, list := range lists {
		g := guard(list, "spare")
		run := func() []any { a, ok := impl.JournalOf(g.list); return results(a, ok) }
		calls = append(calls, call{"JournalOf " + quoted(list[:min(len(list), 9)]), false, run, g.changed})
	}
	texts = append(texts, "0 \n", strings.Repeat("0 \n", 1333), strings.Repeat("0 \n", 1334), strings.Repeat(" ", 4000), strings.Repeat("\n", 4000), strings.Repeat("\n", 4001), "106 a\n106 \nxx")
	for _, text := range texts {
		run := func() []any { a, n, ok := impl.RecoverJournal(text); return results(a, n, ok) }
		calls = append(calls, call{fmt.Sprintf("RecoverJournal %.60q", text), false, run, unchangeable})
	}
	checkCalls(t, calls)
}

// TestPromise1DeskOneMemory has lists that share memory, and changes results.
func TestPromise1DeskOneMemory(t *testing.T) {
	memory := at(0, 0, 2, 0, 1, 2, 7, 7)
	names := []string{"a", "b", "c", "z"}
	d := impl.Desk{Names: names[:3], Lists: [][]impl.Point{memory[:3], memory[:2], memory[:3]}}
	for _, line := range []string{"set b 5.5", "set ab 5.5", "drop a", "show a", "more b a", "more ab a", "path b b", "path ab b", "fly", "span x"} {
		after, _, ok := impl.DeskCommand(d, line)
		if !ok || overwrite(results(after)) {
			t.Errorf("lists share memory behind %q, or it fails", line)
		}
		after, _, ok = impl.RunDesk(d, line+"\n"+line+"\n")
		if !ok || overwrite(results(after)) {
			t.Errorf("lists share memory behind two of %q, or they fail", line)
		}
	}
	after, output, ok := impl.RunDesk(d, "set x 1.1\nmore y x\npath w x\nmore x x\n")
	same(t, "one list for many", results(output, ok), results("ok\n0\nok\n0\n", true))
	if overwrite(results(after)) {
		t.Error("lists of equal points share memory")
	}
	same(t, "arguments", results(memory, names), results(at(0, 0, 2, 0, 1, 2, 7, 7), []string{"a", "b", "c", "z"}))
	same(t, "desk", d, deskOf("a 0.0,2.0,1.2|b 0.0,2.0|c 0.0,2.0,1.2"))
}

// TestPromise1DeskSeveral calls functions from several goroutines, some of which
// fail.
func TestPromise1DeskSeveral(t *testing.T) {
	d := deskOf(three)
	script := "more b a\nshow b\nspan x\nfly\n" + strings.Repeat("draw a 3 3\n", 200)
	all := make(chan string)
	for range 8 {
		go func() {
			after, output, _ := impl.RunDesk(d, script)
			one, said, _ := impl.DeskCommand(d, "drop a")
			picture, _ := impl.PictureOf(at(1, 0), 2, 2)
			journal, _ := impl.JournalOf([]string{"a", ""})
			lines, size, _ := impl.RecoverJournal(journal + "x")
			_, _, wrong := impl.RunDesk(d, "drop a")
			_, _, invalid := impl.DeskCommand(named(""), "drop a")
			all <- fmt.Sprintf("%v %.28q %v %s %q %q %q %d %v %v", after, output, one, said, picture, journal, lines, size, wrong, invalid)
		}()
	}
	for range 8 {
		same(t, "several", <-all, `{[a b] [[{0 0} {2 0} {1 2}] [{0 0} {2 0} {1 2} {1 0}]]} "4\n0.0,2.0,1.2,1.0\nno\nwhat\n.#" {[] []} ok "..\n.#\n" "106 a\n106 \n" ["a" ""] 11 false false`)
	}
	same(t, "desk", d, deskOf(three))
}

// TestPromise1DeskJoined checks that no call leaves a goroutine behind: those that
// have ended are not counted any more soon.
func TestPromise1DeskJoined(t *testing.T) {
	before := runtime.NumGoroutine()
	for range 300 {
		for _, script := range []string{"", "\n", "fly", "drop a\nshow a\nset a 0.0\n", strings.Repeat("\n", 4001)} {
			impl.RunDesk(deskOf(three), script)
			impl.RunDesk(named(""), script)
		}
	}
	for range 1000 {
		if runtime.NumGoroutine() <= before {
			return
		}
		time.Sleep(10 * time.Millisecond)
	}
	t.Errorf("%d goroutines are left, and %d were there before", runtime.NumGoroutine(), before)
}

package tests

import (
	"fmt"
	"maps"
	"math/rand"
	"slices"
	"strings"
	"testing"

	"loop.example/g01149/impl"
)

const unchanged = "="

type lineRow struct{ before, line, output, after string }

// checkLine compares what a line does with the document's rules, and returns its
// output.
func checkLine(t *testing.T, s shelf, line string) string {
	t.Helper()
	before := s.desk()
	want := s.answer(line)
	after, output, ok := impl.DeskCommand(before, line)
	what := fmt.Sprintf("line %.200q with %.200v", line, before)
	same(t, what, results(output, ok, after), results(want, true, s.desk()))
	if output == "no" || output == "what" {
		same(t, "unchanged by "+what, after, before)
	}
	if !isDesk(after) || !impl.ValidDesk(after) {
		t.Errorf("%s: not valid then: %s", what, brief(after))
	}
	return output
}

func checkLineRows(t *testing.T, rows []lineRow) {
	t.Helper()
	for _, row := range rows {
		want := deskOf(row.before)
		if row.after != unchanged {
			want = deskOf(row.after)
		}
		after, output, ok := impl.DeskCommand(deskOf(row.before), row.line)
		same(t, fmt.Sprintf("line %q with %q", row.line, row.before), results(output, ok, after), results(row.output, true, want))
		checkLine(t, shelfOf(row.before), row.line)
	}
}

const (
	three = "a 0.0,2.0,1.2"
	six   = "a 0.0|b none|c 1.1|d 2.2,2.2|e 3.3|f 4.4"
)

func TestPromise12SetByHand(t *testing.T) {
	most := textOf(square(5)[:24])
	checkLineRows(t, []lineRow{
		{"", "set a 0.0,2.0,1.2", "ok", three}, // a new name
		{"", "set a none", "ok", "a none"},
		{"", "set none none", "ok", "none none"},
		{"", "set abcdefgh 99.99", "ok", "abcdefgh 99.99"},
		{three, "set b 5.5", "ok", three + "|b 5.5"},
		{"b 1.1|d 2.2", "set a 3.3", "ok", "a 3.3|b 1.1|d 2.2"},
		{"b 1.1|d 2.2", "set c 3.3", "ok", "b 1.1|c 3.3|d 2.2"},
		{"b 1.1|d 2.2", "set e 3.3", "ok", "b 1.1|d 2.2|e 3.3"},
		{"b 1.1|d 2.2", "set ba 3.3", "ok", "b 1.1|ba 3.3|d 2.2"},
		{three, "set a 5.5", "ok", "a 5.5"}, // a name that there is
		{three, "set a none", "ok", "a none"},
		{three, "set a 0.0,2.0,1.2", "ok", unchanged},
		{"b 1.1|d 2.2|f 3.3", "set d 4.4,4.4", "ok", "b 1.1|d 4.4,4.4|f 3.3"},
		{"b 1.1|d 2.2|f 3.3", "set b 4.4", "ok", "b 4.4|d 2.2|f 3.3"},
		{"b 1.1|d 2.2|f 3.3", "set f 4.4", "ok", "b 1.1|d 2.2|f 4.4"},
		{"", "set a " + most, "ok", "a " + most}, // MaxPoints, and one more
		{"", "set a " + most + ",9.9", "no", unchanged},
		{three, "set a " + most + ",9.9", "no", unchanged},
		{six, "set g 0.0", "no", unchanged}, // one more than MaxNamed
		{six, "set aa 0.0", "no", unchanged},
		{six, "set f 0.0", "ok", "a 0.0|b none|c 1.1|d 2.2,2.2|e 3.3|f 0.0"}, // while a name that there is can be set
		{six, "set a none", "ok", "a none|b none|c 1.1|d 2.2,2.2|e 3.3|f 4.4"},
		{six, "set c 7.7", "ok", "a 0.0|b none|c 7.7|d 2.2,2.2|e 3.3|f 4.4"},
		{"a 0.0|b 0.0|c 0.0|d 0.0|e 0.0", "set z 1.1", "ok", "a 0.0|b 0.0|c 0.0|d 0.0|e 0.0|z 1.1"},

		{three, "set  0.0", "no", unchanged}, // no name
		{three, "set A 0.0", "no", unchanged},
		{three, "set a1 0.0", "no", unchanged},
		{three, "set abcdefghi 0.0", "no", unchanged},
		{three, "set é 0.0", "no", unchanged},
		{three, "set a\x00 0.0", "no", unchanged},
		{three, "set \xff 0.0", "no", unchanged},
		{three, "set a ", "no", unchanged}, // TEXT that ReadPoints refuses
		{three, "set b ", "no", unchanged},
		{three, "set a x", "no", unchanged},
		{three, "set a 100.0", "no", unchanged},
		{three, "set a 0.0,", "no", unchanged},
		{three, "set a 00.0", "no", unchanged},
		{three, "set a 0.-1", "no", unchanged},
		{three, "set a NONE", "no", unchanged},
		{three, "set a 0.0\n", "no", unchanged},
		{three, "set a 0.0;2.0", "no", unchanged},
		{"", "set a x", "no", unchanged},
		{three, "set  ", "no", unchanged}, // both words are empty
	})
}

func TestPromise12DropAndShowByHand(t *testing.T) {
	checkLineRows(t, []lineRow{
		{three, "drop a", "ok", ""}, // the only one
		{"a 0.0|b 1.1|c 2.2", "drop a", "ok", "b 1.1|c 2.2"},
		{"a 0.0|b 1.1|c 2.2", "drop b", "ok", "a 0.0|c 2.2"}, // between two others
		{"a 0.0|b 1.1|c 2.2", "drop c", "ok", "a 0.0|b 1.1"},
		{six, "drop b", "ok", "a 0.0|c 1.1|d 2.2,2.2|e 3.3|f 4.4"},
		{six, "drop f", "ok", "a 0.0|b none|c 1.1|d 2.2,2.2|e 3.3"},
		{three, "drop b", "no", unchanged}, // not there
		{"", "drop a", "no", unchanged},
		{"a 0.0|c 2.2", "drop b", "no", unchanged},
		{"a 0.0|c 2.2", "drop aa", "no", unchanged},
		{"ab 0.0", "drop a", "no", unchanged},
		{"a 0.0", "drop ab", "no", unchanged},
		{three, "drop A", "no", unchanged},
		{three, "drop ", "no", unchanged},
		{three, "drop a\n", "no", unchanged},
		{three, "drop", "what", unchanged},
		{three, "drop a ", "what", unchanged},
		{three, "drop  a", "what", unchanged},
		{three, "drop a a", "what", unchanged},

		{three, "show a", "0.0,2.0,1.2", unchanged},
		{"a none", "show a", "none", unchanged},
		{"a 99.0,5.5,5.5", "show a", "99.0,5.5,5.5", unchanged},
		{"a 0.0|b 1.1|c 2.2", "show a", "0.0", unchanged},
		{"a 0.0|b 1.1|c 2.2", "show b", "1.1", unchanged},
		{"a 0.0|b 1.1|c 2.2", "show c", "2.2", unchanged},
		{three, "show b", "no", unchanged},
		{"", "show a", "no", unchanged},
		{"a 0.0|c 2.2", "show b", "no", unchanged},
		{three, "show ", "no", unchanged},
		{three, "show a\n", "no", unchanged},
	})
}

func TestPromise12PathsByHand(t *testing.T) {
	checkLineRows(t, []lineRow{
		{"c 0.0,0.2", "path a c", "ok", "a 0.0,0.1,0.2|c 0.0,0.2"},
		{"c 0.0,0.2", "path c c", "ok", "c 0.0,0.1,0.2"}, // to the name of its own corners
		{"c 0.0,0.2|d 5.5", "path d c", "ok", "c 0.0,0.2|d 0.0,0.1,0.2"},
		{"c 0.0,0.2|d 5.5", "path c d", "ok", "c 5.5|d 5.5"},
		{"c 3.1,1.1,1.2", "path z c", "ok", "c 3.1,1.1,1.2|z 3.1,2.1,1.1,1.2"},
		{"c 7.7", "path d c", "ok", "c 7.7|d 7.7"},
		{"c 0.0,0.23", "path d c", "ok", "c 0.0,0.23|d " + textOf(upward(0, 23))}, // MaxPoints points, and one more
		{"c 0.0,0.24", "path d c", "no", unchanged},
		{"c 0.0,0.24", "path c c", "no", unchanged},
		{"c 0.0,99.0", "path d c", "no", unchanged},
		{"c none", "path d c", "no", unchanged}, // no corners
		{three, "path b a", "no", unchanged},
		{three, "path a a", "no", unchanged},
		{"c 0.0,1.0,2.0", "path d c", "no", unchanged},
		{"c 0.0,0.1,0.2", "path c c", "no", unchanged},
		{"c 5.5,5.5", "path c c", "no", unchanged},
		{"c 0.0,0.2", "path d e", "no", unchanged}, // a name that there is not
		{"c 0.0,0.2", "path c e", "no", unchanged},
		{"", "path a a", "no", unchanged},
		{"c 0.0,0.2", "path C c", "no", unchanged}, // no name
		{"c 0.0,0.2", "path  c", "no", unchanged},
		{"c 0.0,0.2", "path c ", "no", unchanged},
		{"c 0.0,0.2", "path abcdefghi c", "no", unchanged},
		{six, "path g a", "no", unchanged}, // one more than MaxNamed
		{six, "path b a", "ok", "a 0.0|b 0.0|c 1.1|d 2.2,2.2|e 3.3|f 4.4"},
		{six, "path a b", "no", unchanged},
		{"c 0.0,0.2", "path c", "what", unchanged},
		{"c 0.0,0.2", "path d c c", "what", unchanged},
	})
}

// upward has the points of a column from one Y to another one.
func upward(from, to int64) []impl.Point {
	return turned(oneRow(0, counting(from, to-from+1)...))
}

func TestPromise12DrawByHand(t *testing.T) {
	wide, high := strings.Repeat(".", 40), "."+strings.Repeat("/.", 39)
	checkLineRows(t, []lineRow{
		{three, "draw a 3 3", ".#./.../#.#", unchanged},
		{three, "draw a 1 1", "#", unchanged},
		{three, "draw a 2 1", "#.", unchanged},
		{three, "draw a 1 2", "./#", unchanged},
		{three, "draw a 2 4", "../.#/../#.", unchanged},
		{"a none", "draw a 2 2", "../..", unchanged},
		{"a none", "draw a 40 1", wide, unchanged},
		{"a none", "draw a 1 40", high, unchanged},
		{"a 39.39", "draw a 40 40", wide[1:] + "#" + strings.Repeat("/"+wide, 39), unchanged},
		{"a none", "draw a 41 1", "no", unchanged},
		{"a none", "draw a 1 41", "no", unchanged},
		{three, "draw a 0 3", "no", unchanged},
		{three, "draw a 3 0", "no", unchanged},
		{three, "draw a 0 0", "no", unchanged},
		{three, "draw a -1 3", "no", unchanged},
		{three, "draw a 3 -1", "no", unchanged},
		{three, "draw a 1000000000 3", "no", unchanged},
		{three, "draw a 4294967297 3", "no", unchanged},
		{three, "draw a 18446744073709551619 3", "no", unchanged},
		{three, "draw a x 3", "no", unchanged}, // no numbers
		{three, "draw a 3 x", "no", unchanged},
		{three, "draw a  3", "no", unchanged},
		{three, "draw a 3 ", "no", unchanged},
		{three, "draw a 3.0 3", "no", unchanged},
		{three, "draw a 0x3 3", "no", unchanged},
		{three, "draw a ３ 3", "no", unchanged},
		{three, "draw a 03 3", "no", unchanged}, // leading zeros and signs
		{three, "draw a 3 03", "no", unchanged},
		{three, "draw a +3 3", "no", unchanged},
		{three, "draw a 3 +3", "no", unchanged},
		{three, "draw a -0 3", "no", unchanged},
		{three, "draw a 3 3\n", "no", unchanged},
		{three, "draw b 3 3", "no", unchanged},
		{three, "draw  3 3", "no", unchanged},
		{three, "draw a 3", "what", unchanged},
		{three, "draw a 3 3 3", "what", unchanged},
		{three, "draw a 3 3 ", "what", unchanged},
	})
}

func TestPromise12FormsByHand(t *testing.T) {
	checkLineRows(t, []lineRow{
		{three, "", "what", unchanged}, // empty, and blanks alone
		{three, " ", "what", unchanged},
		{three, "  ", "what", unchanged},
		{"", "", "what", unchanged},
		{three, " drop a", "what", unchanged}, // a blank at the beginning and at the end
		{three, "  drop a", "what", unchanged},
		{three, "drop a ", "what", unchanged},
		{three, "show a ", "what", unchanged},
		{three, "set b 1.1 ", "what", unchanged},
		{three, " set b 1.1", "what", unchanged},
		{three, "set  b 1.1", "what", unchanged}, // two blanks side by side
		{three, "set b  1.1", "what", unchanged},
		{three, "show  a", "what", unchanged},
		{three, "span  ", "what", unchanged},
		{three, "set", "what", unchanged}, // a word too few, and too many
		{three, "set ", "what", unchanged},
		{three, "set b", "what", unchanged},
		{three, "set b 1.1 2.2", "what", unchanged},
		{three, "set b 1.1, 2.2", "what", unchanged},
		{three, "Set b 1.1", "what", unchanged}, // with capitals
		{three, "SET b 1.1", "what", unchanged},
		{three, "Drop a", "what", unchanged},
		{three, "drOp a", "what", unchanged},
		{three, "fly", "what", unchanged}, // other words
		{three, "what", "what", unchanged},
		{three, "a", "what", unchanged},
		{three, "drops a", "what", unchanged},
		{three, "dro a", "what", unchanged},
		{three, "dropa", "what", unchanged},
		{three, "drop\ta", "what", unchanged}, // other bytes than blanks
		{three, "drop\u00a0a", "what", unchanged},
		{three, "drop,a", "what", unchanged},
		{three, "dröp a", "what", unchanged}, // bytes that are not ASCII
		{three, "\xff a", "what", unchanged},
		{three, "drop \xff", "no", unchanged},
		{three, "show ä", "no", unchanged},
		{three, "draw a \xff 3", "no", unchanged},
		{three, "tracks \xff", "no", unchanged},
		{three, "drop a\x00", "no", unchanged},
		{three, "\n", "what", unchanged}, // a newline is a byte as others are
		{three, "what\n", "what", unchanged},
		{three, "\ndrop a", "what", unchanged},
		{three, "drop\na", "what", unchanged},
		{three, "drop a\n", "no", unchanged},
		{three, "drop a\ndrop a", "what", unchanged},
		{three, "set b 0.0\nset", "no", unchanged},
		{three, "set b 0.0\nset c 0.0", "what", unchanged},
		{three, "density 0/0\n", "no", unchanged},
	})
}

// TestPromise12EachForm has each word with all numbers of words behind it.
func TestPromise12EachForm(t *testing.T) {
	behind := map[string]int{"set": 2, "drop": 1, "show": 1, "path": 2, "span": 1, "box": 1, "steiner": 1, "more": 2, "bends": 1, "draw": 3, "tracks": 1, "density": 1, "cycle": 1}
	for _, word := range slices.Sorted(maps.Keys(behind)) {
		for _, given := range []string{"a", "b", "A", "0.0", "3", "0/0", "", "none"} {
			for count := range 7 {
				line := word + strings.Repeat(" "+given, count)
				output := checkLine(t, shelfOf(three), line)
				same(t, fmt.Sprintf("%q is unknown", line), output == "what", count != behind[word])
				same(t, "with a blank before it", checkLine(t, shelfOf(three), " "+line), "what")
				same(t, "with a capital", checkLine(t, shelfOf(three), strings.ToUpper(word)+line[len(word):]), "what")
			}
		}
	}
}

// TestPromise12ChangedLines tries all lines that differ from some in a byte.
func TestPromise12ChangedLines(t *testing.T) {
	before := "a 0.0,2.0,1.2|b none|c 0.0,0.2|ab 1.1"
	seen := map[string]int{}
	for _, line := range []string{"set a 1.2", "set z 1.2,3.4", "drop a", "show c", "path z c", "path c c", "span a", "box b", "more z a", "more a ab", "bends a", "draw a 3 12", "tracks 1,2,1/2,0,0", "density 1,1/0,2", "cycle 1,2/2,1", ""} {
		for i := range len(line) + 1 {
			for b := range 256 {
				lines := []string{line[:i] + string([]byte{byte(b)}) + line[i:]}
				if i < len(line) {
					lines = append(lines, line[:i]+string([]byte{byte(b)})+line[i+1:])
				}
				for _, changed := range lines {
					seen[kindOfOutput(checkLine(t, shelfOf(before), changed))]++
				}
			}
			if i < len(line) {
				seen[kindOfOutput(checkLine(t, shelfOf(before), line[:i]+line[i+1:]))]++
			}
		}
	}
	for _, few := range []string{"ok", "no", "what", "other"} {
		if seen[few] < 50 {
			t.Errorf("too few outputs are %s: %v", few, seen)
		}
	}
}

func kindOfOutput(output string) string {
	if output == "ok" || output == "no" || output == "what" {
		return output
	}
	return "other"
}

// TestPromise12SomeLines tries lines one after another.
func TestPromise12SomeLines(t *testing.T) {
	dice := lineDice{rand.New(rand.NewSource(257))}
	seen := map[string]int{}
	for range 400 {
		s := dice.shelf(7)
		for range 25 {
			line := dice.line()
			seen[wordsIn(line)[0]+" "+kindOfOutput(checkLine(t, s, line))]++
		}
	}
	for _, few := range strings.Split("set ok,drop ok,path ok,show other,span other,box other,steiner other,more other,bends other,draw other,tracks other,density other,cycle other", ",") {
		word, _, _ := strings.Cut(few, " ")
		if min(seen[few], seen[word+" no"], seen[word+" what"]) < 20 {
			t.Errorf("too few of %s: %d, %d and %d", few, seen[few], seen[word+" no"], seen[word+" what"])
		}
	}
}

// TestPromise12OtherLists checks that a line changes no list but that of its name.
func TestPromise12OtherLists(t *testing.T) {
	for _, name := range strings.Split("a b c d e f", " ") {
		for _, line := range []string{"set " + name + " 9.9,8.8", "drop " + name, "path " + name + " e", "more " + name + " c"} {
			d := deskOf(six)
			after, output, ok := impl.DeskCommand(d, line)
			if !ok || output == "no" || output == "what" {
				t.Errorf("line %q outputs %q", line, output)
			}
			is, was := shelfWith(after), shelfWith(d)
			delete(is, name)
			delete(was, name)
			same(t, "others with "+line, is, was)
		}
	}
}

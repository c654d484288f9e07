package tests

import (
	"fmt"
	"math/rand"
	"strings"
	"testing"

	"loop.example/g01149/impl"
)

// checkScript compares what a script does with what its lines do, one after
// another.
func checkScript(t *testing.T, d impl.Desk, script string) string {
	t.Helper()
	last, said := copyOfDesk(d), ""
	for _, line := range linesIn(script) {
		var output string
		var ok bool
		last, output, ok = impl.DeskCommand(last, line)
		if !ok {
			t.Errorf("line %q fails", line)
		}
		said += output + "\n"
	}
	s := shelfWith(d)
	byRule := ""
	for _, line := range linesIn(script) {
		byRule += s.answer(line) + "\n"
	}
	after, output, ok := impl.RunDesk(d, script)
	what := fmt.Sprintf("script %.200q with %.100v", script, d)
	same(t, what, results(after, output, ok), results(last, said, true))
	same(t, what+" by rule", results(after, output), results(s.desk(), byRule))
	return output
}

func TestPromise12DeskExample(t *testing.T) {
	d, output, ok := impl.RunDesk(impl.Desk{}, "set a 0.0,2.0,1.2\nspan a\nmore b a\nshow b\ntracks 1,2,1/2,0,0\n")
	same(t, "example", results(d, output, ok), results(deskOf("a 0.0,2.0,1.2|b 0.0,2.0,1.2,1.0"), "ok\n5\n4\n0.0,2.0,1.2,1.0\n1/2\n", true))
}

func TestPromise12ScriptsByHand(t *testing.T) {
	for _, row := range []struct {
		before, script, output, after string
	}{
		{"", "", "", unchanged}, // empty
		{three, "", "", unchanged},
		{"", "\n", "what\n", unchanged}, // one newline alone, and several
		{three, "\n", "what\n", unchanged},
		{three, "\n\n\n", "what\nwhat\nwhat\n", unchanged},
		{three, " \n", "what\n", unchanged},
		{three, "drop a\n", "ok\n", ""},
		{three, "drop a\ndrop a\n", "ok\nno\n", ""}, // lines know what those before them did
		{three, "drop a\n\nset b 1.1\n", "ok\nwhat\nok\n", "b 1.1"},
		{three, "\ndrop a\n\n", "what\nok\nwhat\n", ""},
		{three, "drop b\nfly\nshow a\n", "no\nwhat\n0.0,2.0,1.2\n", unchanged}, // lines go on behind what and no
		{"", "set a 0.0,0.2\npath b a\nshow b\nshow a\npath a a\nshow a\n", "ok\nok\n0.0,0.1,0.2\n0.0,0.2\nok\n0.0,0.1,0.2\n", "a 0.0,0.1,0.2|b 0.0,0.1,0.2"},
		{"", "set a 0.0,0.2\npath a a\npath a a\n", "ok\nok\nno\n", "a 0.0,0.1,0.2"}, // corners that are no corners any more
		{six, "set g 1.1\ndrop b\nset g 1.1\nset b 1.1\nset g 2.2\n", "no\nok\nok\nno\nok\n", "a 0.0|c 1.1|d 2.2,2.2|e 3.3|f 4.4|g 2.2"},
		{three, "more a a\nmore a a\nspan a\nbox a\nsteiner a\nbends a\n", "4\n4\n4\n4\n4\nxxx 4\n", "a 0.0,2.0,1.2,1.0"},
		{three, "set b 1.1\nset a none\nshow a\ndrop b\n", "ok\nok\nnone\nok\n", "a none"},
		{"", "set c 3.3\nset b 2.2\nset a 1.1\n", "ok\nok\nok\n", "a 1.1|b 2.2|c 3.3"},
		{three, "drop a\r\n", "no\n", unchanged},
		{three, "drop a\x00\n\xff\n", "no\nwhat\n", unchanged},
	} {
		want := deskOf(row.before)
		if row.after != unchanged {
			want = deskOf(row.after)
		}
		after, output, ok := impl.RunDesk(deskOf(row.before), row.script)
		same(t, fmt.Sprintf("script %q with %q", row.script, row.before), results(after, output, ok), results(want, row.output, true))
		checkScript(t, deskOf(row.before), row.script)
	}
}

func TestPromise12NoScripts(t *testing.T) {
	for _, script := range []string{" ", "a", "drop a", "fly", "\ndrop a", "drop a\ndrop a", "drop a\n ", "drop a\n\r", "drop a\\n", "set a 0.0\nshow a", "\n\n\nx", "drop a\x00", "drop a\u2028", "drop a\x0b"} {
		for _, before := range []string{"", three, six} {
			after, output, ok := impl.RunDesk(deskOf(before), script)
			same(t, fmt.Sprintf("script %q", script), results(after, output, ok), results(impl.Desk{}, "", false))
		}
	}
}

// TestPromise12ScriptLimits has scripts of MaxScript bytes, and some more and
// fewer.
func TestPromise12ScriptLimits(t *testing.T) {
	for size := 3990; size <= 4010; size++ {
		long := "drop a\n" + strings.Repeat("x", size-8) + "\n"
		short := "drop a\n" + strings.Repeat("\n", size-7)
		late := strings.Repeat("fly\n", (size-7)/4) + strings.Repeat("\n", (size-7)%4) + "drop a\n"
		for _, script := range []string{long, short, late} {
			if len(script) != size {
				t.Errorf("the script has %d bytes, not %d", len(script), size)
			}
			if size <= impl.MaxScript {
				checkScript(t, deskOf(three), script)
			}
			after, output, ok := impl.RunDesk(deskOf(three), script)
			same(t, brief(size, " bytes"), results(after, output != "", ok), results(impl.Desk{}, size <= 4000, size <= 4000))
		}
		after, output, ok := impl.RunDesk(deskOf(three), strings.Repeat("x", size))
		same(t, brief(size, " bytes without a newline"), results(after, output, ok), results(impl.Desk{}, "", false))
	}
	long := strings.Repeat("draw a 40 40\n", 4000/13) // the outputs are longer than MaxScript
	if output := checkScript(t, deskOf(three), long); len(output) < 400000 {
		t.Errorf("the output has only %d bytes", len(output))
	}
}

func TestPromise12SomeScripts(t *testing.T) {
	dice := lineDice{rand.New(rand.NewSource(263))}
	seen := map[string]int{}
	for i := range 150 {
		most := []int{40, 300, 4000}[i%3]
		for line := range strings.Lines(checkScript(t, dice.shelf(7).desk(), dice.script(most, most))) {
			seen[kindOfOutput(strings.TrimSuffix(line, "\n"))]++
		}
	}
	for _, few := range []string{"ok", "no", "what", "other"} {
		if seen[few] < 500 {
			t.Errorf("too few outputs are %s: %v", few, seen)
		}
	}
}

// TestPromise12ScriptsInParts runs two scripts as one.
func TestPromise12ScriptsInParts(t *testing.T) {
	dice := lineDice{rand.New(rand.NewSource(269))}
	for range 100 {
		before := dice.shelf(6).desk()
		one, two := dice.script(30, 2000), dice.script(30, 2000)
		between, first, _ := impl.RunDesk(before, one)
		last, second, _ := impl.RunDesk(between, two)
		after, output, ok := impl.RunDesk(before, one+two)
		same(t, brief("parts of ", one+two), results(after, output, ok), results(last, first+second, true))
	}
}

package tests

import (
	"fmt"
	"math/rand"
	"slices"
	"strings"
	"testing"

	"loop.example/g01149/impl"
)

// quoted shows where the lines of a list end.
func quoted(all []string) string { return fmt.Sprintf("%d of %.300q", len(all), all) }

// checkJournal compares a journal with the document's rules, and what is
// recovered of it with its lines.
func checkJournal(t *testing.T, all []string) bool {
	t.Helper()
	want := journalByRule(all)
	fits := len(want) <= 4000 && !slices.ContainsFunc(all, func(line string) bool { return strings.Contains(line, "\n") })
	if !fits {
		want = ""
	}
	journal, ok := impl.JournalOf(all)
	same(t, "journal of "+quoted(all), fmt.Sprintf("%q %v", journal, ok), fmt.Sprintf("%q %v", want, fits))
	if ok {
		lines, size, ok := impl.RecoverJournal(journal)
		same(t, "recovered of "+quoted(all), results(quoted(lines), size, ok), results(quoted(all), len(want), true))
	}
	return fits
}

// checkRecovered compares what is recovered of a text with the document's rules,
// and returns how many lines these are.
func checkRecovered(t *testing.T, text string) int {
	t.Helper()
	want := recoveredByRule(text, 0)
	what := fmt.Sprintf("recovered of %.300q", text)
	lines, size, ok := impl.RecoverJournal(text)
	same(t, what, results(quoted(lines), size, ok), results(quoted(want), len(journalByRule(want)), true))
	journal, whole := impl.JournalOf(lines)
	if !whole || int(size) != len(journal) || !strings.HasPrefix(text, journal) {
		t.Errorf("%s: the text does not begin with their journal %.300q", what, journal)
	}
	return len(lines)
}

func TestPromise12JournalsByHand(t *testing.T) {
	for _, row := range []struct {
		lines   []string
		journal string
		ok      bool
	}{
		{nil, "", true}, // no lines
		{[]string{}, "", true},
		{[]string{""}, "0 \n", true}, // empty lines
		{[]string{"", ""}, "0 \n0 \n", true},
		{[]string{"a"}, "106 a\n", true},
		{[]string{"a", ""}, "106 a\n106 \n", true},
		{[]string{"", "a", ""}, "0 \n106 a\n106 \n", true},
		{[]string{"a", "a"}, "106 a\n22472 a\n", true}, // 211 times 106, plus 97 and 9
		{[]string{"aa"}, "22472 aa\n", true},
		{[]string{" "}, "41  \n", true},
		{[]string{" a "}, "13180  a \n", true},
		{[]string{"106 a"}, "55694 106 a\n", true}, // a line that looks like a journal
		{[]string{"a", "b"}, "106 a\n22473 b\n", true},
		{[]string{"set a 0.0"}, "6578 set a 0.0\n", true},
		{[]string{"\x00"}, "9 \x00\n", true}, // any bytes
		{[]string{"\xff"}, "264 \xff\n", true},
		{[]string{"\r"}, "22 \r\n", true},
		{[]string{"\n"}, "", false}, // a newline
		{[]string{"a\n"}, "", false},
		{[]string{"\na"}, "", false},
		{[]string{"a\nb"}, "", false},
		{[]string{"a", "b\n"}, "", false},
		{[]string{"a\n", "b"}, "", false},
		{[]string{"a", "\n", "b"}, "", false},
	} {
		journal, ok := impl.JournalOf(row.lines)
		same(t, "journal of "+quoted(row.lines), fmt.Sprintf("%q %v", journal, ok), fmt.Sprintf("%q %v", row.journal, row.ok))
		checkJournal(t, row.lines)
	}
}

// TestPromise12JournalLimits has journals of MaxScript bytes, and some more and
// fewer.
func TestPromise12JournalLimits(t *testing.T) {
	fitting := map[int]int{}
	check := func(all []string) {
		size := len(journalByRule(all))
		if fits := checkJournal(t, all); fits != (size <= 4000) {
			t.Errorf("a journal of %d bytes: %v", size, fits)
		}
		fitting[size]++
	}
	for size := 3985; size <= 4000; size++ {
		check([]string{strings.Repeat("x", size)})                                     // one line
		check([]string{"a", "", strings.Repeat("\xff", size-20), "b"})                 // some
		check(slices.Repeat([]string{""}, (size-2)/3))                                 // empty ones
		check(append(slices.Repeat([]string{""}, 1300), make([]string, size-3966)...)) // and a few more
		check(append(make([]string, 1300), strings.Repeat("y", size-3900)))            // and a long one
	}
	for _, size := range []int{3999, 4000, 4001, 4002} {
		if fitting[size] < 2 {
			t.Errorf("only %d journals have %d bytes", fitting[size], size)
		}
	}
	for _, all := range [][]string{{strings.Repeat("x", 4001)}, {strings.Repeat("x", 1000000)}, make([]string, 1000000), {"a", strings.Repeat("x", 70000), "b"}} {
		journal, ok := impl.JournalOf(all)
		same(t, "journal of "+quoted(all[:1]), results(journal, ok), results("", false))
	}
}

// someLines are lines, and others that look like a journal, or nearly so.
func (dice lineDice) someLines(most int) []string {
	var all []string
	for range dice.Intn(most + 1) {
		line := strings.ReplaceAll(dice.line(), "\n", "")
		switch dice.Intn(8) {
		case 0:
			line = ""
		case 1:
			line = pick(dice, "0 ", "106 a", "0", " ", "0 0 ", "1000", "a b")
		case 2:
			line = strings.TrimSuffix(journalByRule([]string{line}), "\n")
		}
		all = append(all, line[:min(len(line), 60)])
	}
	return all
}

func TestPromise12SomeJournals(t *testing.T) {
	dice := lineDice{rand.New(rand.NewSource(277))}
	whole := 0
	for range 1500 {
		all := dice.someLines(9)
		if dice.Intn(6) == 0 && len(all) > 0 {
			i := dice.Intn(len(all))
			at := dice.Intn(len(all[i]) + 1)
			all[i] = all[i][:at] + "\n" + all[i][at:]
		}
		if checkJournal(t, all) {
			whole++
		}
	}
	if whole < 1000 || whole > 1400 {
		t.Errorf("%d of the lists have journals", whole)
	}
}

func TestPromise12RecoveredByHand(t *testing.T) {
	for _, row := range []struct {
		text  string
		lines []string
		size  int64
	}{
		{"", nil, 0},
		{"0 \n", []string{""}, 3},
		{"0 \n0 \n", []string{"", ""}, 6},
		{"106 a\n106 \nxx", []string{"a", ""}, 11},
		{"106 a\n106 \n", []string{"a", ""}, 11},
		{"106 a\n106 ", []string{"a"}, 6}, // cut
		{"106 a\n106", []string{"a"}, 6},
		{"106 a\n", []string{"a"}, 6},
		{"106 a", nil, 0},
		{"106 ", nil, 0},
		{"106", nil, 0},
		{"1", nil, 0},
		{"105 a\n", nil, 0}, // another check number
		{"106 b\n", nil, 0},
		{"106 a \n", nil, 0},
		{"106 a\r\n", nil, 0},
		{"106a\n", nil, 0},
		{"106\n", nil, 0},
		{"0\n", nil, 0}, // no blank
		{"\n", nil, 0},
		{" \n", nil, 0},
		{" a\n", nil, 0},
		{"a\n", nil, 0},
		{"0106 a\n", nil, 0}, // leading zeros and signs
		{"00 \n", nil, 0},
		{"+106 a\n", nil, 0},
		{"+0 \n", nil, 0},
		{"-0 \n", nil, 0},
		{"-106 a\n", nil, 0},
		{" 106 a\n", nil, 0},
		{"106  a\n", nil, 0}, // two blanks
		{"106\ta\n", nil, 0},
		{"65627 a\n", nil, 0}, // CheckSize and 106
		{"65521 \n", nil, 0},
		{"106.0 a\n", nil, 0},
		{"0x6a a\n", nil, 0},
		{"106 a\n0106 \n", []string{"a"}, 6},
		{"106 a\n+106 \n", []string{"a"}, 6},
		{"106 a\n0 \n", []string{"a"}, 6}, // as if it were the first line
		{"106 a\n106 a\n", []string{"a"}, 6},
		{"106 a\n22473 b\n", []string{"a", "b"}, 14},
		{"106 a\n107 b\n", []string{"a"}, 6},
		{"106 a\nxx\n106 \n", []string{"a"}, 6}, // nothing behind what is not intact
		{"x\n106 a\n", nil, 0},
		{"\n106 a\n", nil, 0},
		{"106 a\n\n106 \n", []string{"a"}, 6},
		{"55694 106 a\n", []string{"106 a"}, 12}, // a line that looks like a journal
		{"41  \n", []string{" "}, 5},
		{"13180  a \n", []string{" a "}, 10},
		{"9 \x00\n264 \xff\n", []string{"\x00"}, 4},
	} {
		lines, size, ok := impl.RecoverJournal(row.text)
		same(t, fmt.Sprintf("recovered of %q", row.text), results(quoted(lines), size, ok), results(quoted(row.lines), row.size, true))
		checkRecovered(t, row.text)
	}
}

// TestPromise12CutJournals cuts journals at each byte.
func TestPromise12CutJournals(t *testing.T) {
	dice := lineDice{rand.New(rand.NewSource(281))}
	for range 60 {
		all := dice.someLines(8)
		journal := journalByRule(all)
		for size := range len(journal) + 1 {
			intact := strings.Count(journal[:size], "\n")
			if got := checkRecovered(t, journal[:size]); got != intact {
				t.Errorf("%d lines are recovered of %q, not %d", got, journal[:size], intact)
			}
		}
	}
}

// TestPromise12ChangedJournals has each byte of journals changed, left out or put
// in.
func TestPromise12ChangedJournals(t *testing.T) {
	seen := map[int]int{}
	for _, all := range [][]string{{"a", ""}, {"", "", "", ""}, {"show a", "drop a", " "}, {"106 a", "0 ", "\xff\x00"}, {"set a 0.0,2.0,1.2", "more b a", "", "show b"}} {
		journal := journalByRule(all)
		for i := range len(journal) + 1 {
			intact := strings.Count(journal[:i], "\n")
			for b := range 256 {
				texts := []string{journal[:i] + string([]byte{byte(b)}) + journal[i:]}
				if i < len(journal) {
					texts = append(texts, journal[:i]+string([]byte{byte(b)})+journal[i+1:])
				}
				for _, text := range texts {
					got := checkRecovered(t, text)
					if got < intact {
						t.Errorf("only %d lines are recovered of %q", got, text)
					}
					seen[got]++
				}
			}
			if i < len(journal) {
				checkRecovered(t, journal[:i]+journal[i+1:])
			}
		}
	}
	for lines := range 4 {
		if seen[lines] < 1000 {
			t.Errorf("too few journals have %d lines that are intact: %v", lines, seen)
		}
	}
}

// TestPromise12OtherLines has a line of one journal in another one, or two lines
// exchanged, or one left out or twice.
func TestPromise12OtherLines(t *testing.T) {
	dice := lineDice{rand.New(rand.NewSource(283))}
	seen := map[int]int{}
	for range 3000 {
		parts := slices.Collect(strings.Lines(journalByRule(append(dice.someLines(6), "a", "b"))))
		others := slices.Collect(strings.Lines(journalByRule(append(dice.someLines(6), "c"))))
		i, k := dice.Intn(len(parts)), dice.Intn(len(parts))
		switch dice.Intn(5) {
		case 0:
			parts[i] = others[dice.Intn(len(others))]
		case 1:
			parts = slices.Insert(parts, i, others[dice.Intn(len(others))])
		case 2:
			parts[i], parts[k] = parts[k], parts[i]
		case 3:
			parts = slices.Delete(parts, i, i+1)
		default:
			parts = slices.Insert(parts, i, parts[k])
		}
		got := checkRecovered(t, strings.Join(parts, ""))
		if got < min(i, k) {
			t.Errorf("only %d lines are recovered of %q", got, parts)
		}
		seen[got]++
	}
	for lines := range 5 {
		if seen[lines] < 100 {
			t.Errorf("too few journals have %d lines that are intact: %v", lines, seen)
		}
	}
}

// TestPromise12RecoverLimits has texts of MaxScript bytes, and some more and
// fewer.
func TestPromise12RecoverLimits(t *testing.T) {
	begin := journalByRule([]string{"a", ""})
	for size := 3990; size <= 4010; size++ {
		rest := strings.Repeat("x", size-len(begin))
		long := journalByRule([]string{strings.Repeat("z", size-7)})
		for _, row := range []struct {
			text  string
			lines []string
		}{
			{begin + rest, []string{"a", ""}},
			{begin + strings.Repeat("\n", len(rest)), []string{"a", ""}},
			{rest + begin, nil},
			{long, []string{strings.Repeat("z", size-7)}},
			{strings.Repeat("0 \n", size/3) + "0 \n"[:size%3], make([]string, size/3)},
		} {
			fits := len(row.text) <= 4000
			want := row.lines
			if !fits {
				want = nil
			}
			lines, got, ok := impl.RecoverJournal(row.text)
			same(t, brief(len(row.text), " bytes"), results(quoted(lines), got, ok), results(quoted(want), len(journalByRule(want)), fits))
		}
	}
	for _, text := range []string{strings.Repeat("0 \n", 1000000), strings.Repeat("x", 1000000), begin + strings.Repeat(" ", 4000)} {
		lines, size, ok := impl.RecoverJournal(text)
		same(t, brief(len(text), " bytes"), results(lines, size, ok), results([]string{}, 0, false))
	}
}

// TestPromise12JournalOfScript recovers the lines of a script, and runs as many as
// are intact.
func TestPromise12JournalOfScript(t *testing.T) {
	script := "set a 0.0,2.0,1.2\nmore b a\ndrop a\n"
	journal, ok := impl.JournalOf(linesIn(script))
	if !ok {
		t.Fatal("no journal")
	}
	for size := range len(journal) + 1 {
		lines, _, _ := impl.RecoverJournal(journal[:size])
		after, _, _ := impl.RunDesk(impl.Desk{}, scriptOf(lines...))
		want := []string{"", three, three + "|b 0.0,2.0,1.2,1.0", "b 0.0,2.0,1.2,1.0"}[len(lines)]
		same(t, brief("desk behind ", size, " bytes"), after, deskOf(want))
	}
}

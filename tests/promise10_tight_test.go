package tests

import (
	"math"
	"math/rand"
	"slices"
	"testing"

	"loop.example/g01149/impl"
)

// checkTight compares the tight rules for any places with the document's rule.
func checkTight(t *testing.T, p impl.Press, places []int64) []int64 {
	t.Helper()
	var want []int64
	is := keepsRules(p, places)
	if is {
		want = tightByRule(p, places)
	}
	tight, ok := impl.TightRules(p, places)
	same(t, brief("tight rules for ", places, " of ", p), results(tight, ok), results(want, is))
	return want
}

// checkCritical compares the critical path with all lists of parts along tight
// rules, and returns how many of them are as short.
func checkCritical(t *testing.T, p impl.Press) (length, count int) {
	t.Helper()
	var want []int64
	least, is := leastByRule(p)
	if is {
		want, count = criticalByRule(p, least)
	}
	path, ok := impl.CriticalPath(p)
	same(t, "critical path of "+brief(p), results(path, ok), results(want, is))
	return len(want), count
}

func TestPromise10Tight(t *testing.T) {
	some, none := 0, 0
	check := func(p impl.Press, places []int64) {
		if len(checkTight(t, p, places)) > 0 {
			some++
		} else if keepsRules(p, places) {
			none++
		}
	}
	tinyPresses(func(p impl.Press) {
		if len(p.Rules) == 3 && p.Parts == 3 {
			return
		}
		for _, places := range [][]int64{{0}, {0, 2}, {3, 1}, {1, 2, 4}, {4, 4, 2}, {0, 0, 0}} {
			check(p, places)
		}
	})
	severalPresses(1500, func(dice *rand.Rand, p impl.Press) {
		if all, ok := sumsByRule(p); ok { // least places, latest ones, and others
			width := slices.Max(all.least(make([]int64, p.Parts)))
			latest, _ := latestByRule(p, width+dice.Int63n(3))
			from := make([]int64, p.Parts)
			for i := range from {
				from[i] = dice.Int63n(5)
			}
			for _, places := range [][]int64{all.least(make([]int64, p.Parts)), latest, all.least(from)} {
				check(p, places)
				places[dice.Intn(len(places))] += dice.Int63n(3) - 1
				check(p, places)
			}
		}
	})
	if some < 1000 || none < 300 {
		t.Errorf("too few places have tight rules, %d, or none, %d", some, none)
	}
}

func TestPromise10TightByHand(t *testing.T) {
	p := press(3, "0 1 3|1 2 4|0 2 7|2 0 -9|0 1 3|1 0 0|0 1 2")
	checkNone := func(p impl.Press, places []int64) {
		t.Helper()
		tight, ok := impl.TightRules(p, places)
		same(t, brief("tight rules for ", places, " of ", p), results(tight, ok), results(numbers(""), false))
	}
	checkNone(p, numbers("0 3 7")) // the rule from 1 to 0 is not kept
	p.Rules[5].Apart = -4
	for _, row := range []struct {
		p      impl.Press
		places string
		tight  string
	}{
		{p, "0 3 7", "0 1 2 4"},
		{p, "1 4 8", "0 1 2 4"}, // not the least ones
		{p, "0 4 8", "1 5"},
		{p, "0 4 9", "3 5"},
		{p, "0 3 8", "0 4"},
		{p, "5 9 14", "3 5"},
		{p, "15991 15995 16000", "3 5"},
		{press(1, ""), "0", ""},
		{press(3, ""), "0 0 0", ""}, // a press without rules
		{press(2, "0 1 -3"), "0 0", ""},
		{press(2, "0 1 -3"), "3 0", "0"},
		{press(2, "0 1 0"), "7 7", "0"},
		{press(2, "0 1 0"), "7 8", ""},
		{press(2, "0 1 3|0 1 3"), "0 3", "0 1"},
		{press(2, "0 1 3|0 1 2"), "0 3", "0"},
		{press(2, "0 1 2|0 1 3"), "0 3", "1"},
		{press(2, "0 1 3|1 0 -3"), "5 8", "0 1"}, // a ring of tight rules
		{press(2, "0 1 1000|1 0 -1000"), "15000 16000", "0 1"},
		{impl.Press{Parts: 2, Rules: rulesInRow(2, 40, 0)}, "9 9", "0 1 2 3 4 5 6 7 8 9 10 11 12 13 14 15 16 17 18 19 20 21 22 23 24 25 26 27 28 29 30 31 32 33 34 35 36 37 38 39"},
	} {
		what := brief(row.places, " of ", row.p)
		tight, ok := impl.TightRules(row.p, numbers(row.places))
		same(t, "tight rules for "+what, results(tight, ok), results(numbers(row.tight), true))
	}
	for _, places := range [][]int64{nil, numbers("0 3"), numbers("0 3 7 7"), numbers("0 2 7"), numbers("0 3 6"), numbers("0 3 10"), numbers("-1 2 6"), numbers("15994 15997 16001"), {0, math.MaxInt64, 0}} {
		checkNone(p, places)
	}
	checkNone(press(2, "0 1 3|1 0 -2"), numbers("0 3"))
}

func TestPromise10Critical(t *testing.T) {
	lengths, several := map[int]int{}, 0
	check := func(p impl.Press) {
		length, count := checkCritical(t, p)
		lengths[length]++
		if length > 1 && count > 1 {
			several++
		}
	}
	tinyPresses(check)
	severalPresses(3000, func(_ *rand.Rand, p impl.Press) { check(p) })
	if several < 100 || min(lengths[0], lengths[1], lengths[2], lengths[3]) < 500 || lengths[4] < 50 {
		t.Errorf("too few paths of some length are tried, %v, or several as short, %d", lengths, several)
	}
}

// TestPromise10LayeredPaths has parts in layers, in any order, with rules from
// most parts of a layer to those of the next one, all of the same Apart: so
// there are many paths.
func TestPromise10LayeredPaths(t *testing.T) {
	dice := rand.New(rand.NewSource(227))
	lengths, many := map[int]int{}, 0
	for range 1500 {
		parts := 4 + dice.Intn(13)
		names := diceSegments(dice, parts, parts)
		layers := 2 + dice.Intn(5)
		p := impl.Press{Parts: int64(parts)}
		for len(p.Rules) < 40 && dice.Intn(45) > 0 {
			i, k := dice.Intn(parts), dice.Intn(parts)
			if k%layers == i%layers+1 || k%layers == i%layers+2 && dice.Intn(9) == 0 {
				p.Rules = append(p.Rules, impl.Rule{From: names[i], To: names[k], Apart: int64(10 * (k%layers - i%layers))})
			}
		}
		length, count := checkCritical(t, p)
		lengths[length]++
		if count > 3 {
			many++
		}
	}
	if many < 300 || min(lengths[2], lengths[3], lengths[4], lengths[5]) < 50 {
		t.Errorf("too few paths of some length are tried, %v, or many as short, %d", lengths, many)
	}
}

func TestPromise10CriticalByHand(t *testing.T) {
	for _, row := range []struct {
		p    impl.Press
		path string
	}{
		{press(1, ""), "0"}, // one part
		{press(16, ""), "0"},
		{press(3, "0 1 -5|1 2 0"), "0"},
		{press(2, "0 1 3"), "0 1"},
		{press(2, "1 0 3"), "1 0"},
		{press(2, "0 1 3|1 0 -3"), "0 1"},
		{press(2, "0 1 3|1 0 -2"), ""},         // no places
		{press(3, "1 2 3"), "1 2"},             // the part 0 is not on it
		{press(3, "0 1 3|1 2 4|0 2 7"), "0 2"}, // fewer parts
		{press(3, "0 1 3|1 2 4|0 2 6"), "0 1 2"},
		{press(3, "0 2 3|1 2 3"), "0 2"}, // several of the same number of parts
		{press(3, "1 2 3|0 2 3"), "0 2"},
		{press(3, "0 2 2|1 2 3"), "1 2"},
		{press(3, "0 1 3|0 2 3"), "0 1"}, // several ends
		{press(3, "0 2 3|0 1 3"), "0 1"},
		{press(3, "0 1 3|0 2 4"), "0 2"},
		{press(4, "0 3 3|1 2 3"), "0 3"},       // the lesser beginning, not the lesser end
		{press(4, "0 1 1|1 2 1|3 2 2"), "3 2"}, // the shorter one begins with a greater part
		{press(4, "0 1 1|1 3 1|0 2 1|2 3 1"), "0 1 3"},
		{press(4, "0 2 1|2 3 1|0 1 1|1 3 1"), "0 1 3"},
		{press(4, "0 1 1|1 3 1|0 2 2|2 3 1"), "0 2 3"},
		{press(5, "0 2 1|2 4 1|1 3 1|3 4 1"), "0 2 4"},
		{press(5, "0 3 1|3 4 1|1 2 1|2 4 1"), "0 3 4"}, // the first difference decides
		{press(6, "0 4 1|4 5 1|1 2 1|2 5 1|0 3 1|3 5 1"), "0 3 5"},
		{press(3, "0 1 9|1 2 -4"), "0 1"}, // a rule that goes back, and an end in the middle
		{press(3, "0 2 9|2 1 -2"), "0 2"},
		{press(4, "0 2 9|2 1 -2|1 3 6"), "0 2 1 3"}, // over a place and back
		{press(4, "0 2 9|2 1 -2|1 3 2"), "0 2"},     // 2 and 3 are both at 9
		{press(4, "0 1 0|1 2 0|2 3 5"), "2 3"},      // parts at 0 in a row
		{press(4, "3 2 1|2 1 1|1 0 1"), "3 2 1 0"},
		{chain(16, 1000), "0 1 2 3 4 5 6 7 8 9 10 11 12 13 14 15"},
		{chain(16, 0), "0"},
		{impl.Press{Parts: 16, Rules: slices.Concat(chain(16, 10).Rules, press(16, "3 9 60|0 3 30|9 15 60|2 14 120|0 2 20|14 15 10").Rules)}, "0 2 14 15"},
	} {
		what := brief(row.p)
		same(t, "valid "+what, isPress(row.p), true)
		checkCritical(t, row.p)
		path, ok := impl.CriticalPath(row.p)
		same(t, "critical path of "+what, results(path, ok), results(numbers(row.path), row.path != ""))
	}
}

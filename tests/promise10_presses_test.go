package tests

import (
	"math"
	"math/rand"
	"slices"
	"testing"

	"loop.example/g01149/impl"
)

func TestPromise10Limits(t *testing.T) {
	same(t, "limits", results(impl.MaxParts, impl.MaxRules, impl.MaxApart, impl.MaxShapes), results(16, 40, 1000, 12))
}

// checkNoPress checks that all functions with a press fail.
func checkNoPress(t *testing.T, p impl.Press) {
	t.Helper()
	what := brief(p)
	var none []int64
	for _, places := range [][]int64{nil, {0}, {0, 0}, {0, 5, 9}, make([]int64, 16), make([]int64, 17)} {
		same(t, "placed in "+what, impl.IsPlaced(p, places), false)
		tight, ok := impl.TightRules(p, places)
		same(t, "tight rules without "+what, results(tight, ok), results(none, false))
	}
	places, ok := impl.LeastPlaces(p)
	same(t, "least places without "+what, results(places, ok), results(none, false))
	width, ok := impl.WidthOf(p)
	same(t, "width without "+what, results(width, ok), results(0, false))
	ring, ok := impl.RisingRing(p)
	same(t, "ring without "+what, results(ring, ok), results(none, false))
	path, ok := impl.CriticalPath(p)
	same(t, "path without "+what, results(path, ok), results(none, false))
	for _, width := range []int64{0, 100, 16000} {
		places, ok = impl.LatestPlaces(p, width)
		same(t, "latest places without "+what, results(places, ok), results(none, false))
		places, ok = impl.FreedomOf(p, width)
		same(t, "freedom without "+what, results(places, ok), results(none, false))
	}
	for _, r := range press(2, "0 1 0|1 0 -1000").Rules {
		more, by, ok := impl.AddRule(p, r)
		same(t, "rule for "+what, results(more, by, ok), results(impl.Press{}, 0, false))
	}
}

func TestPromise10ValidPress(t *testing.T) {
	for _, row := range []struct {
		p    impl.Press
		want bool
	}{
		{press(1, ""), true}, // parts, without rules
		{press(2, ""), true},
		{press(16, ""), true}, // MaxParts, and one more
		{press(17, ""), false},
		{press(0, ""), false}, // none, and below 0
		{press(-1, ""), false},
		{press(-2, "0 1 5"), false},
		{impl.Press{Parts: 3, Rules: []impl.Rule{}}, true},
		{impl.Press{Parts: math.MinInt64}, false},
		{impl.Press{Parts: math.MaxInt64}, false},
		{impl.Press{Parts: 1<<32 + 2}, false},
		{press(0, "0 1 5"), false},
		{press(17, "0 1 5"), false},

		{press(2, "0 1 5"), true}, // from and to parts
		{press(2, "1 0 5"), true},
		{press(1, "0 0 5"), false}, // a part to itself
		{press(2, "0 0 0"), false},
		{press(2, "1 1 -5"), false},
		{press(1, "0 1 5"), false}, // parts that there are not
		{press(1, "1 0 5"), false},
		{press(2, "0 2 5"), false},
		{press(2, "2 0 5"), false},
		{press(2, "2 3 5"), false},
		{press(2, "0 -1 5"), false},
		{press(2, "-1 0 5"), false},
		{press(2, "-1 -2 5"), false},
		{press(16, "0 15 5"), true},
		{press(16, "15 0 5"), true},
		{press(16, "0 16 5"), false},
		{press(16, "16 0 5"), false},
		{impl.Press{Parts: 2, Rules: []impl.Rule{{From: math.MinInt64, To: 1}}}, false},
		{impl.Press{Parts: 2, Rules: []impl.Rule{{From: 0, To: math.MaxInt64}}}, false},
		{impl.Press{Parts: 2, Rules: []impl.Rule{{From: 0, To: 1<<32 + 1}}}, false},

		{press(2, "0 1 0"), true}, // Apart
		{press(2, "0 1 1000"), true},
		{press(2, "0 1 1001"), false},
		{press(2, "0 1 999"), true},
		{press(2, "0 1 -1000"), true},
		{press(2, "0 1 -1001"), false},
		{press(2, "0 1 -999"), true},
		{impl.Press{Parts: 2, Rules: []impl.Rule{{To: 1, Apart: math.MinInt64}}}, false},
		{impl.Press{Parts: 2, Rules: []impl.Rule{{To: 1, Apart: math.MaxInt64}}}, false},

		{press(2, "0 1 3|0 1 3"), true}, // equal rules, and several between the same parts
		{press(2, "0 1 3|0 1 4|1 0 -9|0 1 -2"), true},
		{press(3, "0 1 3|0 1 3|1 1 3"), false}, // a wrong one behind others
		{press(3, "0 3 3|0 1 3|1 2 3"), false},
		{press(3, "0 1 3|1 2 1001|0 2 3"), false},
		{press(2, "0 1 3|1 0 3"), true}, // without places

		{impl.Press{Parts: 2, Rules: rulesInRow(2, 40, 0)}, true}, // MaxRules, and one more
		{impl.Press{Parts: 2, Rules: rulesInRow(2, 41, 0)}, false},
		{impl.Press{Parts: 16, Rules: rulesInRow(16, 40, 3)}, true},
		{impl.Press{Parts: 16, Rules: rulesInRow(16, 41, 3)}, false},
		{impl.Press{Parts: 16, Rules: rulesInRow(16, 10000, 0)}, false},
	} {
		what := brief(row.p)
		same(t, "valid "+what, results(impl.ValidPress(row.p), isPress(row.p)), results(row.want, row.want))
		if !row.want {
			checkNoPress(t, row.p)
		}
	}
}

// TestPromise10ChangedPresses changes a number of a press or of a rule, or adds
// a rule.
func TestPromise10ChangedPresses(t *testing.T) {
	valid, broken := 0, 0
	severalPresses(1500, func(dice *rand.Rand, p impl.Press) {
		same(t, "valid "+brief(p), impl.ValidPress(p), true)
		around := []int64{-1, 0, 1, p.Parts - 1, p.Parts, p.Parts + 1, 16, 17, 1 << 32, math.MaxInt64, math.MinInt64}
		n := around[dice.Intn(len(around))]
		switch kind := dice.Intn(5); {
		case kind == 0 || len(p.Rules) == 0:
			p.Parts = n
		case kind == 1:
			p.Rules[dice.Intn(len(p.Rules))].From = n
		case kind == 2:
			p.Rules[dice.Intn(len(p.Rules))].To = n
		case kind == 3:
			p.Rules[dice.Intn(len(p.Rules))].Apart = []int64{-1001, -1000, 1000, 1001, n}[dice.Intn(5)]
		default:
			p.Rules = slices.Concat(p.Rules, p.Rules)
		}
		same(t, "valid "+brief(p), impl.ValidPress(p), isPress(p))
		if isPress(p) {
			valid++
		} else {
			broken++
			checkNoPress(t, p)
		}
	})
	if valid < 200 || broken < 500 {
		t.Errorf("too few are still presses, %d, or not, %d", valid, broken)
	}
}

func TestPromise10IsPlaced(t *testing.T) {
	example := press(2, "0 1 3")
	back := press(3, "0 1 3|1 2 4|2 0 -9")
	for _, row := range []struct {
		p      impl.Press
		places []int64
		want   bool
	}{
		{press(1, ""), numbers("0"), true},
		{press(1, ""), numbers("16000"), true}, // the greatest number, and one more
		{press(1, ""), numbers("16001"), false},
		{press(1, ""), numbers("-1"), false}, // below 0
		{press(1, ""), nil, false},           // too few, and too many
		{press(1, ""), numbers("0 0"), false},
		{press(3, ""), numbers("0 16000 5"), true},
		{press(3, ""), numbers("0 16001 5"), false},
		{press(3, ""), numbers("0 5 -1"), false},
		{press(3, ""), numbers("0 5"), false},
		{press(3, ""), numbers("0 5 5 5"), false},
		{press(2, ""), []int64{math.MaxInt64, 0}, false},
		{press(2, ""), []int64{0, math.MinInt64}, false},
		{press(2, "0 1 -1000"), []int64{math.MinInt64, math.MaxInt64}, false},
		{press(2, "0 1 1000"), []int64{math.MaxInt64, math.MinInt64}, false},
		{press(2, "0 1 1000"), []int64{math.MinInt64, math.MinInt64 + 1000}, false},
		{press(1, ""), []int64{1 << 32}, false},
		{example, numbers("0 3"), true}, // just so, and by 1 not
		{example, numbers("0 2"), false},
		{example, numbers("0 4"), true},
		{example, numbers("1 3"), false},
		{example, numbers("1 4"), true},
		{example, numbers("3 0"), false},
		{example, numbers("15997 16000"), true},
		{example, numbers("15998 16000"), false},
		{example, numbers("15998 16001"), false},
		{example, numbers("-1 2"), false},
		{example, numbers("0 3 0"), false},
		{example, numbers("0"), false},
		{press(2, "1 0 3"), numbers("3 0"), true},
		{press(2, "1 0 3"), numbers("2 0"), false},
		{press(2, "0 1 0"), numbers("7 7"), true},
		{press(2, "0 1 0"), numbers("7 6"), false},
		{press(2, "0 1 -2"), numbers("7 5"), true},
		{press(2, "0 1 -2"), numbers("7 4"), false},
		{press(2, "0 1 -1000"), numbers("1000 0"), true},
		{press(2, "0 1 -1000"), numbers("1001 0"), false},
		{press(2, "0 1 1000"), numbers("0 1000"), true},
		{press(2, "0 1 1000"), numbers("0 999"), false},
		{back, numbers("0 3 7"), true}, // a rule that goes back
		{back, numbers("0 3 9"), true},
		{back, numbers("0 3 10"), false},
		{back, numbers("1 3 9"), false},
		{back, numbers("0 5 9"), true},
		{back, numbers("0 6 9"), false},
		{press(2, "0 1 3|0 1 3"), numbers("0 3"), true},
		{press(2, "0 1 3|0 1 5"), numbers("0 4"), false}, // the greater one of several counts
		{press(2, "0 1 5|0 1 3"), numbers("0 4"), false},
		{press(2, "0 1 5|0 1 3"), numbers("0 5"), true},
		{press(2, "0 1 3|1 0 -2"), numbers("0 3"), false}, // without places
		{press(2, "0 1 3|1 0 -2"), numbers("0 2"), false},
	} {
		what := brief(row.places, " in ", row.p)
		same(t, "placed "+what, results(impl.IsPlaced(row.p, row.places), keepsRules(row.p, row.places)), results(row.want, row.want))
		_, ok := impl.TightRules(row.p, row.places)
		same(t, "tight rules "+what, ok, row.want)
	}
}

// TestPromise10AllPlaces has all places of small presses, and some of those that
// are no places.
func TestPromise10AllPlaces(t *testing.T) {
	is, isNot := 0, 0
	tinyPresses(func(p impl.Press) {
		if len(p.Rules) == 3 && p.Parts == 3 && p.Rules[0].Apart == 1 {
			return // others like this one are enough
		}
		choicesOver(slices.Repeat([]int64{5}, int(p.Parts)), func(places []int64) {
			want := keepsRules(p, places)
			if impl.IsPlaced(p, places) != want {
				t.Errorf("%v are not %t in %s", places, want, brief(p))
			}
			if want {
				is++
			} else {
				isNot++
			}
		})
	})
	if is < 10000 || isNot < 10000 {
		t.Errorf("too few places are tried, %d, or others, %d", is, isNot)
	}
}

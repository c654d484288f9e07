package tests

import (
	"math"
	"math/rand"
	"slices"
	"testing"

	"loop.example/g01149/impl"
)

// addByRule computes the widths of both presses.
func addByRule(p impl.Press, r impl.Rule) (impl.Press, int64, bool) {
	more := impl.Press{Parts: p.Parts, Rules: append(slices.Clone(p.Rules), r)}
	if !isPress(p) || !isPress(more) {
		return impl.Press{}, 0, false
	}
	before, one := leastByRule(p)
	behind, two := leastByRule(more)
	if !one || !two {
		return impl.Press{}, 0, false
	}
	return more, slices.Max(behind) - slices.Max(before), true
}

// checkAdded compares a press with one more rule with the document's rule.
func checkAdded(t *testing.T, p impl.Press, r impl.Rule) (int64, bool) {
	t.Helper()
	want, wider, is := addByRule(p, r)
	more, by, ok := impl.AddRule(p, r)
	same(t, brief("rule ", r, " added to ", p), results(more, by, ok), results(want, wider, is))
	return wider, is
}

func TestPromise10Added(t *testing.T) {
	wider, left, without := 0, 0, 0
	check := func(p impl.Press, r impl.Rule) {
		switch by, ok := checkAdded(t, p, r); {
		case !ok:
			without++
		case by > 0:
			wider++
		default:
			left++
		}
	}
	tinyPresses(func(p impl.Press) { // the last rule is added
		if last := len(p.Rules) - 1; last >= 0 {
			check(impl.Press{Parts: p.Parts, Rules: p.Rules[:last]}, p.Rules[last])
		}
	})
	severalPresses(3000, func(dice *rand.Rand, p impl.Press) {
		if p.Parts > 1 {
			ends := diceSegments(dice, int(p.Parts), 2)
			greatest := []int64{3, 60, 1000}[dice.Intn(3)]
			check(p, impl.Rule{From: ends[0], To: ends[1], Apart: dice.Int63n(2*greatest+1) - greatest})
		}
	})
	if wider < 500 || left < 500 || without < 500 {
		t.Errorf("too few rules make the width greater, %d, or leave it, %d, or leave no places, %d", wider, left, without)
	}
}

func TestPromise10AddedByHand(t *testing.T) {
	many := impl.Press{Parts: 3, Rules: rulesInRow(3, 39, 0)}
	most := impl.Press{Parts: 3, Rules: rulesInRow(3, 40, 0)}
	for _, row := range []struct {
		p    impl.Press
		rule string
		by   int64
		ok   bool
	}{
		{press(2, "0 1 3"), "1 0 -3", 0, true},  // leaves the width
		{press(2, "0 1 3"), "1 0 -2", 0, false}, // leaves no places
		{press(2, "0 1 3"), "0 1 4", 1, true},
		{press(2, "0 1 3"), "0 1 1000", 997, true},
		{press(2, "0 1 3"), "0 1 3", 0, true},
		{press(2, "0 1 3"), "0 1 -1000", 0, true},
		{press(2, ""), "0 1 5", 5, true},
		{press(2, ""), "0 1 0", 0, true},
		{press(3, "0 1 3|1 2 4|2 0 -9"), "0 2 8", 1, true},
		{press(3, "0 1 3|1 2 4|2 0 -9"), "0 2 9", 2, true},
		{press(3, "0 1 3|1 2 4|2 0 -9"), "0 2 10", 0, false},
		{press(3, "0 1 3|1 2 4"), "0 2 7", 0, true},
		{press(3, "0 1 3|1 2 4"), "2 0 5", 0, false},
		{press(3, "0 2 9|0 1 3"), "1 2 6", 0, true}, // other places, but no greater width
		{press(3, "0 2 9|0 1 3"), "1 2 7", 1, true},
		{press(3, "0 2 9|0 1 3"), "2 1 -4", 0, true},
		{press(2, "0 1 3|1 0 -2"), "0 1 0", 0, false}, // no places before
		{press(3, "0 1 3|1 0 -2"), "1 2 1", 0, false},
		{press(2, "0 1 3"), "0 0 0", 0, false}, // no rules of the press
		{press(2, "0 1 3"), "1 1 -5", 0, false},
		{press(2, "0 1 3"), "0 2 3", 0, false},
		{press(2, "0 1 3"), "2 0 3", 0, false},
		{press(2, "0 1 3"), "-1 0 3", 0, false},
		{press(2, "0 1 3"), "0 -1 3", 0, false},
		{press(2, "0 1 3"), "0 1 1001", 0, false},
		{press(2, "0 1 3"), "1 0 -1001", 0, false},
		{press(1, ""), "0 0 0", 0, false},
		{press(1, ""), "0 1 0", 0, false},
		{press(16, ""), "15 0 1000", 1000, true},
		{press(17, ""), "15 0 1000", 0, false}, // no presses
		{press(0, ""), "0 1 5", 0, false},
		{press(2, "0 1 1001"), "0 1 5", 0, false},
		{press(2, "0 2 5"), "0 1 5", 0, false},
		{many, "0 1 0", 0, true}, // up to MaxRules, and one more
		{many, "0 1 1", 0, false},
		{most, "0 1 0", 0, false},
		{most, "0 1 -5", 0, false},
		{chain(16, 1000), "0 15 1000", 0, true},
		{impl.Press{Parts: 16, Rules: chain(16, 1000).Rules[1:]}, "0 1 1000", 1000, true},
		{impl.Press{Parts: 16, Rules: append(slices.Clone(chain(16, 1000).Rules[:7]), chain(16, 1000).Rules[8:]...)}, "7 8 1000", 8000, true}, // two chains become one
	} {
		r := press(2, row.rule).Rules[0]
		what := brief(r, " added to ", row.p)
		checkAdded(t, row.p, r)
		more, by, ok := impl.AddRule(row.p, r)
		same(t, what, results(by, ok), results(row.by, row.ok))
		if row.ok {
			same(t, what, results(more.Parts, more.Rules), results(row.p.Parts, append(slices.Clone(row.p.Rules), r)))
		}
	}
	for _, n := range []int64{math.MinInt64, math.MaxInt64, 1<<32 + 1} {
		for _, r := range []impl.Rule{{From: n, To: 1}, {From: 0, To: n}, {From: 0, To: 1, Apart: n}, {From: n, To: n}} {
			_, ok := checkAdded(t, press(2, "0 1 3"), r)
			same(t, brief("rule ", r), ok, false)
		}
	}
}

// TestPromise10OneByOne adds rules to a press without any, one after another, as
// long as there are places.
func TestPromise10OneByOne(t *testing.T) {
	dice := rand.New(rand.NewSource(229))
	full, without := 0, 0
	for range 60 {
		parts := 2 + dice.Intn(15)
		p := impl.Press{Parts: int64(parts)}
		sum := int64(0)
		for {
			ends := diceSegments(dice, parts, 2)
			r := impl.Rule{From: min(ends[0], ends[1]), To: max(ends[0], ends[1]), Apart: dice.Int63n(20)}
			if dice.Intn(4) == 0 {
				r = impl.Rule{From: r.To, To: r.From, Apart: -dice.Int63n(300)}
			}
			more, by, ok := impl.AddRule(p, r)
			if !ok {
				break
			}
			sum += by
			p = more
		}
		width, ok := impl.WidthOf(p)
		same(t, "width of "+brief(p), results(width, ok), results(sum, true))
		if len(p.Rules) == 40 {
			full++
		} else {
			without++
		}
	}
	if full < 5 || without < 5 {
		t.Errorf("too few presses are full, %d, or end before, %d", full, without)
	}
}

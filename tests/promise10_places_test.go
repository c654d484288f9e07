package tests

import (
	"math"
	"math/rand"
	"slices"
	"testing"

	"loop.example/g01149/impl"
)

// checkLeast compares the least places and the width with a second computation,
// and reports whether there are places.
func checkLeast(t *testing.T, p impl.Press) bool {
	t.Helper()
	want, is := leastByRule(p)
	places, ok := impl.LeastPlaces(p)
	same(t, "least places of "+brief(p), results(places, ok), results(want, is))
	greatest := int64(0)
	if is {
		greatest = slices.Max(want)
		same(t, "placed in "+brief(p), impl.IsPlaced(p, places), true)
	}
	width, ok := impl.WidthOf(p)
	same(t, "width of "+brief(p), results(width, ok), results(greatest, is))
	return is
}

// checkLatest compares the latest places and the freedom for a width with a
// second computation.
func checkLatest(t *testing.T, p impl.Press, width int64) bool {
	t.Helper()
	want, is := latestByRule(p, width)
	places, ok := impl.LatestPlaces(p, width)
	same(t, brief("latest places in ", width, " of ", p), results(places, ok), results(want, is))
	var free []int64
	if is {
		same(t, brief("placed in ", width, " of ", p), impl.IsPlaced(p, places), true)
		least, _ := leastByRule(p)
		for i := range want {
			free = append(free, want[i]-least[i])
		}
	}
	freedom, ok := impl.FreedomOf(p, width)
	same(t, brief("freedom in ", width, " of ", p), results(freedom, ok), results(free, is))
	return is
}

// checkWidths has widths around the width of a press, and the greatest ones.
func checkWidths(t *testing.T, p impl.Press) {
	t.Helper()
	least, is := leastByRule(p)
	width := int64(7)
	if is {
		width = slices.Max(least)
	}
	for _, row := range []struct {
		width int64
		want  bool
	}{
		{-1, false}, {0, is && width == 0}, {width - 1, false}, {width, is}, {width + 1, is}, {width + 100, is}, {15999, is}, {16000, is},
		{16001, false}, {1<<32 + width, false}, {math.MinInt64, false}, {math.MaxInt64, false},
	} {
		same(t, brief("places in ", row.width, " of ", p), checkLatest(t, p, row.width), row.want)
	}
}

// TestPromise10LeastOfAll tries all places of small presses up to as great a
// number as least places can have there, and widths up to it.
func TestPromise10LeastOfAll(t *testing.T) {
	with, without := 0, 0
	tinyPresses(func(p impl.Press) {
		greatest := 2 * (p.Parts - 1)
		var least []int64
		latest := make([][]int64, greatest+1) // by width
		placesOver(p, greatest, func(places []int64) {
			if least == nil {
				least = slices.Clone(places)
			}
			for i, n := range places {
				least[i] = min(least[i], n)
			}
			for width := slices.Max(places); width <= greatest; width++ {
				if latest[width] == nil {
					latest[width] = slices.Clone(places)
				}
				for i, n := range places {
					latest[width][i] = max(latest[width][i], n)
				}
			}
		})
		places, ok := impl.LeastPlaces(p)
		same(t, "least places of "+brief(p), results(places, ok), results(least, least != nil))
		for width, want := range latest {
			places, ok = impl.LatestPlaces(p, int64(width))
			same(t, brief("latest places in ", width, " of ", p), results(places, ok), results(want, want != nil))
		}
		if least != nil {
			with++
		} else {
			without++
		}
	})
	if with < 1000 || without < 300 {
		t.Errorf("too few presses have places, %d, or none, %d", with, without)
	}
}

func TestPromise10Places(t *testing.T) {
	with, without, above := 0, 0, 0
	check := func(p impl.Press) {
		if !checkLeast(t, p) {
			without++
			return
		}
		with++
		if least, _ := leastByRule(p); slices.Min(least) > 0 {
			above++
		}
	}
	tinyPresses(check)
	severalPresses(3000, func(_ *rand.Rand, p impl.Press) { check(p) })
	if with < 2000 || without < 300 || above > 0 {
		t.Errorf("too few presses have places, %d, or none, %d, or some have no part at 0, %d", with, without, above)
	}
}

func TestPromise10Widths(t *testing.T) {
	tinyPresses(func(p impl.Press) {
		if len(p.Rules) < 3 {
			checkWidths(t, p)
		}
	})
	severalPresses(500, func(_ *rand.Rand, p impl.Press) { checkWidths(t, p) })
}

// TestPromise10DrawnPlaces draws places that keep all rules: none of them are
// less than the least ones, or greater than the latest ones. Then it changes one
// of them by 1.
func TestPromise10DrawnPlaces(t *testing.T) {
	drawn, kept, broken := 0, 0, 0
	severalPresses(1500, func(dice *rand.Rand, p impl.Press) {
		all, ok := sumsByRule(p)
		if !ok {
			return
		}
		from := make([]int64, p.Parts)
		for i := range from {
			from[i] = dice.Int63n([]int64{3, 20, 1500, 16001}[dice.Intn(4)])
		}
		places := all.least(from)
		width := slices.Max(places)
		least, _ := impl.LeastPlaces(p)
		latest, fits := impl.LatestPlaces(p, width)
		same(t, brief("drawn places ", places, " of ", p), results(impl.IsPlaced(p, places), fits), results(width <= 16000, width <= 16000))
		if !fits {
			return
		}
		drawn++
		for i, n := range places {
			if n < least[i] || n > latest[i] {
				t.Errorf("%s has the places %v, but the least ones are %v, and the latest ones %v", brief(p), places, least, latest)
			}
			for _, other := range []int64{n - 1, n + 1} {
				changed := slices.Clone(places)
				changed[i] = other
				want := keepsRules(p, changed)
				same(t, brief("changed places ", changed, " of ", p), impl.IsPlaced(p, changed), want)
				if want {
					kept++
				} else {
					broken++
				}
			}
		}
	})
	if drawn < 500 || kept < 2000 || broken < 2000 {
		t.Errorf("too few places are drawn, %d, or still places with a change, %d, or not, %d", drawn, kept, broken)
	}
}

// TestPromise10LowerPlaces makes each least place less by 1, and each latest one
// greater: then a rule or an end is not kept.
func TestPromise10LowerPlaces(t *testing.T) {
	severalPresses(400, func(dice *rand.Rand, p impl.Press) {
		least, ok := impl.LeastPlaces(p)
		if !ok {
			return
		}
		width := slices.Max(least) + dice.Int63n(30)
		latest, _ := impl.LatestPlaces(p, width)
		for i := range least {
			least[i]--
			same(t, brief("lower ", least, " of ", p), impl.IsPlaced(p, least), false)
			least[i]++
			latest[i]++
			same(t, brief("later ", latest, " of ", p), impl.IsPlaced(p, latest) && latest[i] <= width, false)
			latest[i]--
		}
	})
}

// multiples has the multiples of a number for MaxParts parts.
func multiples(of int64) []int64 {
	var places []int64
	for i := range int64(16) {
		places = append(places, i*of)
	}
	return places
}

func TestPromise10PlacesByHand(t *testing.T) {
	long := chain(16, 1000)
	full := impl.Press{Parts: 16, Rules: slices.Concat(long.Rules, rulesInRow(16, 15, -1000), press(16, "1 0 -1000|0 15 1000|3 2 -1000|2 3 1000|10 9 -1000|4 9 1000|0 1 0|1 2 0|2 3 1|3 4 999").Rules)}
	same(t, "rules", len(full.Rules), 40)
	round := func(apart, back int64) impl.Press { // all parts, and back to the first one
		return impl.Press{Parts: 16, Rules: append(chain(16, apart).Rules, impl.Rule{From: 15, To: 0, Apart: back})}
	}
	down := impl.Press{Parts: 16} // from each part to the one before it
	for i := range int64(15) {
		down.Rules = append(down.Rules, impl.Rule{From: i + 1, To: i, Apart: 7})
	}
	sevens := multiples(7)
	slices.Reverse(sevens)
	for _, row := range []struct {
		p      impl.Press
		least  []int64
		width  int64 // for the latest places
		latest []int64
	}{
		{press(1, ""), numbers("0"), 0, numbers("0")},
		{press(1, ""), numbers("0"), 16000, numbers("16000")},
		{press(3, ""), numbers("0 0 0"), 5, numbers("5 5 5")}, // no rules
		{press(16, ""), make([]int64, 16), 0, make([]int64, 16)},
		{press(2, "0 1 3"), numbers("0 3"), 5, numbers("2 5")}, // the example
		{press(2, "0 1 3"), numbers("0 3"), 3, numbers("0 3")},
		{press(2, "0 1 3"), numbers("0 3"), 2, nil},
		{press(2, "0 1 3"), numbers("0 3"), 0, nil},
		{press(2, "1 0 3"), numbers("3 0"), 4, numbers("4 1")},
		{press(2, "0 1 0"), numbers("0 0"), 0, numbers("0 0")},
		{press(2, "0 1 -3"), numbers("0 0"), 2, numbers("2 2")},
		{press(2, "0 1 -3"), numbers("0 0"), 0, numbers("0 0")},
		{press(2, "0 1 3|0 1 3"), numbers("0 3"), 3, numbers("0 3")}, // two equal rules
		{press(2, "0 1 3|0 1 5|0 1 -4"), numbers("0 5"), 6, numbers("1 6")},
		{press(2, "0 1 3|1 0 -3"), numbers("0 3"), 9, numbers("6 9")}, // rules that go back
		{press(2, "0 1 3|1 0 -4"), numbers("0 3"), 9, numbers("6 9")},
		{press(2, "0 1 3|1 0 -2"), nil, 9, nil},
		{press(2, "0 1 3|1 0 -1000"), numbers("0 3"), 9, numbers("6 9")},
		{press(2, "0 1 1000|1 0 -1000"), numbers("0 1000"), 1000, numbers("0 1000")},
		{press(2, "0 1 1000|1 0 -999"), nil, 16000, nil},
		{press(2, "0 1 1|1 0 1"), nil, 16000, nil},
		{press(2, "0 1 0|1 0 0"), numbers("0 0"), 0, numbers("0 0")},
		{press(3, "0 1 3|1 2 4|2 0 -7"), numbers("0 3 7"), 7, numbers("0 3 7")},
		{press(3, "0 1 3|1 2 4|2 0 -6"), nil, 16000, nil},
		{press(3, "0 1 3|1 2 4|2 0 -9"), numbers("0 3 7"), 10, numbers("3 6 10")},
		{press(3, "1 2 8|2 0 -5"), numbers("3 0 8"), 8, numbers("8 0 8")},    // a rule that goes back moves a part
		{press(3, "0 2 9|2 1 -2"), numbers("0 7 9"), 10, numbers("1 10 10")}, // and makes no part last
		{press(3, "2 1 5|1 0 5"), numbers("10 5 0"), 12, numbers("12 7 2")},  // against the numbers
		{press(3, "0 2 5|1 2 9"), numbers("0 0 9"), 9, numbers("4 0 9")},     // the greater one of two
		{press(3, "0 1 5|0 2 9"), numbers("0 5 9"), 9, numbers("0 9 9")},     // the lesser one of two
		{press(4, "0 1 5|2 3 7"), numbers("0 5 0 7"), 7, numbers("2 7 0 7")}, // on their own
		{press(4, "0 1 2|1 3 2|0 2 1|2 3 9"), numbers("0 2 1 10"), 10, numbers("0 8 1 10")},
		{press(4, "3 2 1|2 1 1|1 0 1"), numbers("3 2 1 0"), 3, numbers("3 2 1 0")}, // each round one part
		{press(4, "2 3 1|3 0 1|0 2 -1"), nil, 16000, nil},
		{press(4, "2 3 1|3 0 1|0 2 -2"), numbers("2 0 0 1"), 2, numbers("2 2 0 1")},
		{long, multiples(1000), 15000, multiples(1000)}, // as great as can be
		{long, multiples(1000), 14999, nil},
		{long, multiples(1000), 16000, moved(multiples(1000), 1000)},
		{chain(16, -1000), make([]int64, 16), 500, slices.Repeat([]int64{500}, 16)},
		{down, sevens, 105, sevens},
		{impl.Press{Parts: 16, Rules: append(slices.Clone(down.Rules), impl.Rule{From: 0, To: 15, Apart: -105})}, sevens, 106, moved(sevens, 1)},
		{impl.Press{Parts: 16, Rules: append(slices.Clone(down.Rules), impl.Rule{From: 0, To: 15, Apart: -104})}, nil, 106, nil},
		{full, multiples(1000), 15000, multiples(1000)},        // MaxRules
		{round(0, 0), make([]int64, 16), 0, make([]int64, 16)}, // a ring of all
		{round(0, 1), nil, 16000, nil},
		{round(66, -990), multiples(66), 990, multiples(66)},
		{round(66, -989), nil, 16000, nil},
		{round(1000, -1000), nil, 16000, nil},
	} {
		what := brief(row.p)
		same(t, "valid "+what, isPress(row.p), true)
		checkLeast(t, row.p)
		checkWidths(t, row.p)
		places, ok := impl.LeastPlaces(row.p)
		same(t, "least places of "+what, results(places, ok), results(row.least, row.least != nil))
		places, ok = impl.LatestPlaces(row.p, row.width)
		same(t, brief("latest places in ", row.width, " of ", what), results(places, ok), results(row.latest, row.latest != nil))
	}
}

// TestPromise10Example has what the document tells.
func TestPromise10Example(t *testing.T) {
	p := press(2, "0 1 3")
	places, one := impl.LeastPlaces(p)
	width, two := impl.WidthOf(p)
	same(t, "two parts", results(places, one, width, two), results(numbers("0 3"), true, 3, true))
	ring, ok := impl.RisingRing(press(2, "0 1 3|1 0 -2"))
	same(t, "ring", results(ring, ok), results(numbers("0 1"), true))
	_, ok = impl.LeastPlaces(press(2, "0 1 3|1 0 -3"))
	same(t, "places", ok, true)
}

package tests

import (
	"math/rand"
	"slices"
	"testing"

	"loop.example/g01149/impl"
)

// told is what checkRouting finds.
type told struct {
	least, count, bound int64 // the overflow of the best choices, how many there are, and CutBound
	greedy              int64
	several             int // for how many nets GreedyChoice has several equally good shapes
}

// checkRouting compares choices and the bound with all choices and the
// document's rules.
func checkRouting(t *testing.T, g impl.Grid, nets []impl.Net) told {
	t.Helper()
	what := brief(nets, " in ", g)
	r := route(g, nets)
	var all told
	want, overflow, several := r.greedyByRule()
	all.greedy, all.several = overflow, several
	chosen, n, ok := impl.GreedyChoice(g, nets)
	same(t, "greedy choice of "+what, results(chosen, n, ok), results(want, overflow, true))
	all.bound, ok = impl.CutBound(g, nets)
	same(t, "bound of "+what, results(all.bound, ok), results(cutByRule(g, nets), true))
	if _, product := r.sizes(); product > 20000 {
		chosen, n, ok = impl.BestChoice(g, nets)
		same(t, "best choice of too many for "+what, results(chosen, n, ok), results(numbers(""), 0, false))
		return all
	}
	want, all.least, all.count = r.bestByRule()
	chosen, n, ok = impl.BestChoice(g, nets)
	same(t, "best choice of "+what, results(chosen, n, ok), results(want, all.least, true))
	if all.least < all.bound || all.greedy < all.least {
		t.Errorf("%s have the overflow %d, the bound %d, and %d of the greedy choice", what, all.least, all.bound, all.greedy)
	}
	return all
}

// tally counts what is seldom.
type tally struct {
	over, none, several, one, tight, loose, worse, ties int
}

func (a *tally) add(found told) {
	for counter, is := range map[*int]bool{
		&a.over: found.least > 0, &a.none: found.least == 0, &a.several: found.count > 1, &a.one: found.count == 1,
		&a.tight: found.bound > 0 && found.bound == found.least, &a.loose: found.bound < found.least,
		&a.worse: found.greedy > found.least, &a.ties: found.several > 0,
	} {
		if is {
			*counter++
		}
	}
}

func (a *tally) check(t *testing.T, few int) {
	t.Helper()
	if min(a.over, a.none, a.several, a.one, a.tight, a.loose, a.worse, a.ties) < few {
		t.Errorf("too few of some kind are tried: %+v", *a)
	}
}

func TestPromise9Choices(t *testing.T) {
	var seen tally
	tinyRoutings(func(g impl.Grid, nets []impl.Net) { seen.add(checkRouting(t, g, nets)) })
	seen.check(t, 40)
}

// TestPromise9ThreeNets has all rooms of a small square, and some lists of three
// nets and more.
func TestPromise9ThreeNets(t *testing.T) {
	var seen tally
	dice := rand.New(rand.NewSource(179))
	roomsOver(2, 2, 3, func(g impl.Grid) {
		for count := 3; count <= 6; count++ {
			for range 4 {
				seen.add(checkRouting(t, g, diceNets(dice, g, count)))
			}
		}
	})
	seen.check(t, 100)
}

func TestPromise9SomeChoices(t *testing.T) {
	var seen tally
	many := 0
	severalRoutings(1500, func(_ *rand.Rand, g impl.Grid, nets []impl.Net) {
		_, product := route(g, nets).sizes()
		switch {
		case product > 20000:
			many++
			checkRouting(t, g, nets)
		case product <= 1500:
			seen.add(checkRouting(t, g, nets))
		}
	})
	seen.check(t, 30)
	if many < 10 {
		t.Errorf("too few have too many choices: %d", many)
	}
}

// withShapes is a net with so many shapes.
func withShapes(count int64) impl.Net {
	if count == 1 {
		return netsOf(0, 0, 7, 0)[0]
	}
	return netsOf(0, 0, count/2, count-count/2)[0]
}

// TestPromise9MaxChoices has products of just MaxChoices and more.
func TestPromise9MaxChoices(t *testing.T) {
	for _, row := range []struct {
		sizes string
		ok    bool
	}{
		{"10 10 10 10 2", true},
		{"2 10 10 10 10", true},
		{"10 10 10 10 2 1", true},
		{"1 10 10 10 2 10", true},
		{"5 5 5 5 8 4", true},
		{"13 8 12 8 2 1", true}, // 19968
		{"4 5 7 11 13", false},  // 20020
		{"13 11 7 5 4 1", false},
		{"14 12 10 12", false}, // 20160
		{"14 14 14 14", false},
		{"14 14 14 14 14 14", false},
		{"14 14 14 7", true}, // 19208
	} {
		var nets []impl.Net
		product := int64(1)
		for _, size := range numbers(row.sizes) {
			nets = append(nets, withShapes(size))
			product *= size
		}
		same(t, "product of "+row.sizes, product <= 20000, row.ok)
		dice := rand.New(rand.NewSource(181))
		for _, g := range []impl.Grid{evenGrid(8, 8, 1), evenGrid(8, 8, 0), diceGrid(dice, 8, 8, 2)} {
			_, _, ok := impl.BestChoice(g, nets)
			same(t, "best choice of "+row.sizes, ok, row.ok)
			checkRouting(t, g, nets)
			checkChosen(t, g, nets, make([]int64, len(nets)))
		}
	}
}

func TestPromise9ChoicesByHand(t *testing.T) {
	one := netsOf(0, 0, 1, 1)
	for _, row := range []struct {
		g             impl.Grid
		nets          []impl.Net
		best          string
		least         int64
		greedy        string
		more          int64
		bound         int64
		several, ties bool // whether several choices are the best, or several shapes for a net equally good
	}{
		{oneCell(), nil, "", 0, "", 0, 0, false, false}, // no nets
		{evenGrid(8, 8, 0), nil, "", 0, "", 0, 0, false, false},
		{oneCell(), netsOf(0, 0, 0, 0), "0", 0, "0", 0, 0, false, false},
		{evenGrid(8, 8, 0), slices.Repeat(netsOf(3, 3, 3, 3), 6), "0 0 0 0 0 0", 0, "0 0 0 0 0 0", 0, 0, false, false},
		{evenGrid(3, 1, 1), netsOf(0, 0, 2, 0), "0", 0, "0", 0, 0, false, false}, // in one row
		{evenGrid(3, 1, 1), netsOf(0, 0, 2, 0, 2, 0, 1, 0), "0 0", 1, "0 0", 1, 1, false, false},
		{evenGrid(3, 1, 0), netsOf(0, 0, 2, 0, 2, 0, 1, 0), "0 0", 3, "0 0", 3, 3, false, false},
		{evenGrid(1, 3, 1), netsOf(0, 0, 0, 2, 0, 2, 0, 1), "0 0", 1, "0 0", 1, 1, false, false}, // in one column

		{evenGrid(2, 2, 1), one, "0", 0, "0", 0, 0, true, true},
		{evenGrid(2, 2, 1), slices.Repeat(one, 2), "0 1", 0, "0 1", 0, 0, true, true}, // the same nets
		{evenGrid(2, 2, 1), slices.Repeat(one, 3), "0 0 1", 2, "0 1 0", 2, 2, true, true},
		{evenGrid(2, 2, 1), slices.Repeat(one, 4), "0 0 0 1", 4, "0 1 0 0", 4, 4, true, true},
		{evenGrid(2, 2, 0), slices.Repeat(one, 2), "0 0", 4, "0 0", 4, 4, true, true}, // edges without room
		{evenGrid(2, 2, 20), slices.Repeat(one, 6), "0 0 0 0 0 0", 0, "0 0 0 0 0 0", 0, 0, true, true},
		{gridOf("0|1", "1 0"), one, "1", 0, "1", 0, 0, false, false},
		{gridOf("1|0", "0 1"), one, "0", 0, "0", 0, 0, false, false},
		{gridOf("1|1", "1 0"), one, "1", 0, "1", 0, 0, false, false},
		{gridOf("0|1", "0 1"), one, "0", 1, "0", 1, 0, true, true}, // neither shape has room everywhere, but the lines have
		{gridOf("0|1", "1 0"), slices.Repeat(one, 2), "0 1", 2, "1 0", 2, 2, true, true},
		{gridOf("0|0", "5 5"), slices.Repeat(one, 2), "0 0", 2, "0 0", 2, 2, true, true}, // much room across one line helps no other one

		// The second net has one shape, which the first one uses.
		{evenGrid(2, 2, 1), netsOf(0, 0, 1, 1, 0, 0, 1, 0), "1 0", 0, "0 0", 1, 0, false, true},
		{evenGrid(2, 2, 1), netsOf(0, 0, 1, 0, 0, 0, 1, 1), "0 1", 0, "0 1", 0, 0, false, false},
		{evenGrid(2, 2, 1), netsOf(1, 1, 0, 0, 0, 0, 0, 1), "1 0", 0, "0 0", 1, 0, false, true},
		{evenGrid(3, 2, 1), netsOf(0, 0, 2, 1, 1, 1, 2, 1), "1 0", 0, "0 0", 1, 0, false, true},
		// The second net goes out of the way of the first one.
		{evenGrid(3, 3, 1), netsOf(0, 0, 1, 0, 0, 0, 2, 2, 1, 2, 2, 2), "0 2 0", 0, "0 2 0", 0, 0, false, true},
		{evenGrid(3, 3, 1), netsOf(0, 0, 1, 0, 0, 0, 2, 2, 0, 1, 1, 1), "0 3 0", 0, "0 2 0", 1, 0, false, true},
		// Rooms out of reach are counted in the bound.
		{gridOf("0|20", "20 20"), netsOf(0, 0, 1, 0), "0", 1, "0", 1, 0, false, false},
		{gridOf("0 0|1 1|20 20", "0 0 0|20 20 20"), netsOf(0, 0, 2, 0, 0, 1, 2, 1), "0 0", 2, "0 0", 2, 0, false, false},
		{gridOf("0 0|0 0", "1 1 1"), netsOf(0, 0, 2, 1, 2, 1, 0, 0), "0 1", 4, "0 1", 4, 4, true, true},
		{gridOf("0 0|0 0", "9 9 9"), netsOf(0, 0, 2, 1, 2, 1, 0, 0), "0 0", 4, "0 0", 4, 4, true, true},
	} {
		what := brief(row.nets, " in ", row.g)
		found := checkRouting(t, row.g, row.nets)
		same(t, what, found, told{found.least, found.count, row.bound, row.more, found.several})
		same(t, "several of "+what, results(found.count > 1, found.several > 0), results(row.several, row.ties))
		chosen, n, ok := impl.BestChoice(row.g, row.nets)
		same(t, "best choice of "+what, results(chosen, n, ok), results(numbers(row.best), row.least, true))
		chosen, n, ok = impl.GreedyChoice(row.g, row.nets)
		same(t, "greedy choice of "+what, results(chosen, n, ok), results(numbers(row.greedy), row.more, true))
		n, ok = impl.CutBound(row.g, row.nets)
		same(t, "bound of "+what, results(n, ok), results(row.bound, true))
	}
}

// TestPromise9Example has what the document tells.
func TestPromise9Example(t *testing.T) {
	g, _ := impl.EvenGrid(2, 2, 1)
	n := impl.Net{From: impl.Point{X: 0, Y: 0}, To: impl.Point{X: 1, Y: 1}}
	chosen, least, one := impl.BestChoice(g, []impl.Net{n, n})
	same(t, "two nets", results(chosen, least, one), results(numbers("0 1"), 0, true))
	_, least, one = impl.BestChoice(g, []impl.Net{n, n, n})
	bound, two := impl.CutBound(g, []impl.Net{n, n, n})
	same(t, "three nets", results(least, one, bound, two), results(2, true, 2, true))
}

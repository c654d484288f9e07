package tests

import (
	"math"
	"math/rand"
	"slices"
	"testing"

	"loop.example/g01149/impl"
)

// checkShields compares the best shields with all sets of so many, and returns
// how many of them are the best.
func checkShields(t *testing.T, b impl.Bundle, order []int64, count int64) int64 {
	t.Helper()
	what := brief(count, " shields for ", order, " of ", b)
	var want ranking
	is := isOrderByRule(b, order) && count >= 0 && count < wiresIn(b)
	if is {
		want = bestShieldsByRule(b, order, count)
	}
	shields, coupling, ok := impl.BestShields(b, order, count)
	same(t, what, results(shields, coupling, ok), results(want.first, want.least, is))
	if is {
		same(t, "number of "+what, len(shields), count)
		other, laid := impl.CouplingOf(b, order, shields)
		same(t, "coupling with "+what, results(other, laid), results(coupling, true))
	}
	return want.shared
}

func TestPromise11Shields(t *testing.T) {
	one, several := 0, 0
	tinyBundles(func(b impl.Bundle) {
		wires := wiresIn(b)
		ordersOver(wires, func(order []int64) {
			if wires == 5 && order[0] != 3 {
				return
			}
			for count := range wires {
				if checkShields(t, b, order, count) > 1 {
					several++
				} else {
					one++
				}
			}
		})
	})
	if one < 10000 || several < 10000 {
		t.Errorf("too few times one set is the best, %d, or several, %d", one, several)
	}
}

func TestPromise11SomeShields(t *testing.T) {
	one, several := 0, 0
	severalBundles(600, 9, func(dice *rand.Rand, b impl.Bundle) {
		order := diceOrder(dice, b)
		for count := range wiresIn(b) {
			if checkShields(t, b, order, count) > 1 {
				several++
			} else {
				one++
			}
		}
		for _, count := range []int64{-1, wiresIn(b), wiresIn(b) + 1, 64, 65, math.MinInt64, math.MaxInt64} {
			checkShields(t, b, order, count)
		}
		checkShields(t, b, order[1:], 0)
	})
	if one < 1000 || several < 500 {
		t.Errorf("too few times one set is the best, %d, or several, %d", one, several)
	}
}

// inRow has wires whose neighbours in ascending order have some weights, and all
// others the same one.
func inRow(other int64, weights ...int64) impl.Bundle {
	b := evenBundle(int64(len(weights)+1), other)
	for i, weight := range weights {
		setWeight(b, int64(i), int64(i+1), weight)
	}
	return b
}

func TestPromise11ShieldsByHand(t *testing.T) {
	one, three := bundle("0"), coupled(3, "5 1 2")
	for _, row := range []struct {
		b        impl.Bundle
		order    string
		count    int64
		shields  string
		coupling int64
		ok       bool
	}{
		{three, "0 2 1", 1, "2", 1, true}, // the example
		{three, "0 2 1", 0, "", 3, true},  // no shields
		{three, "0 2 1", 2, "1 2", 0, true},
		{three, "0 2 1", 3, "", 0, false}, // as many as wires
		{three, "0 2 1", 4, "", 0, false},
		{three, "0 2 1", -1, "", 0, false},
		{three, "0 2 1", math.MinInt64, "", 0, false},
		{three, "0 2 1", math.MaxInt64, "", 0, false},
		{three, "0 2 1", 1 << 32, "", 0, false},
		{three, "0 1 2", 1, "1", 2, true},
		{three, "1 2 0", 1, "1", 1, true},
		{three, "2 1 0", 1, "2", 2, true},
		{three, "2 1", 1, "", 0, false}, // no orders
		{three, "2 1 1", 1, "", 0, false},
		{three, "2 1 0 3", 1, "", 0, false},
		{three, "3 1 0", 1, "", 0, false},
		{three, "-1 1 0", 1, "", 0, false},
		{three, "", 0, "", 0, false},
		{one, "0", 0, "", 0, true}, // one wire
		{one, "0", 1, "", 0, false},
		{one, "0", -1, "", 0, false},
		{coupled(2, "7"), "1 0", 0, "", 7, true},
		{coupled(2, "7"), "1 0", 1, "1", 0, true},
		{coupled(2, "7"), "1 0", 2, "", 0, false},
		{coupled(2, "0"), "1 0", 1, "1", 0, true}, // of weight 0
		{evenBundle(9, 0), "8 7 6 5 4 3 2 1 0", 3, "1 2 3", 0, true},
		{evenBundle(9, 1000), "8 7 6 5 4 3 2 1 0", 3, "1 2 3", 5000, true},
		{evenBundle(9, 1000), "8 7 6 5 4 3 2 1 0", 7, "1 2 3 4 5 6 7", 1000, true},
		{evenBundle(9, 1000), "8 7 6 5 4 3 2 1 0", 8, "1 2 3 4 5 6 7 8", 0, true},
		{evenBundle(9, 1000), "8 7 6 5 4 3 2 1 0", 9, "", 0, false},
		{inRow(9, 3, 1, 4, 1, 5, 9, 2, 6), "0 1 2 3 4 5 6 7 8", 1, "6", 22, true},
		{inRow(9, 3, 1, 4, 1, 5, 9, 2, 6), "0 1 2 3 4 5 6 7 8", 4, "3 5 6 8", 7, true},
		{inRow(9, 3, 1, 4, 1, 5, 9, 2, 6), "0 1 2 3 4 5 6 7 8", 7, "1 2 3 5 6 7 8", 1, true}, // the lesser one of two
		{inRow(9, 3, 1, 4, 1, 5, 9, 2, 6), "8 7 6 5 4 3 2 1 0", 7, "1 2 3 4 5 6 8", 1, true},
		{inRow(9, 0, 5, 0, 5, 0, 5, 0, 5), "0 1 2 3 4 5 6 7 8", 3, "2 4 6", 5, true}, // several sets
		{inRow(9, 0, 5, 0, 5, 0, 5, 0, 5), "0 1 2 3 4 5 6 7 8", 5, "1 2 4 6 8", 0, true},
		{inRow(9, 0, 5, 0, 5, 0, 5, 0, 5), "0 1 2 3 4 5 6 7 8", 6, "1 2 3 4 6 8", 0, true},
		{inRow(9, 2, 2, 7, 2), "0 1 2 3 4", 2, "1 3", 4, true},
		{inRow(9, 2, 2, 2, 7), "0 1 2 3 4", 2, "1 4", 4, true},
		{inRow(9, 7, 2, 2, 7), "0 1 2 3 4", 3, "1 2 4", 2, true},
		{inRow(9, 2, 2, 7, 2), "0 1 2 4 3", 2, "1 3", 4, true}, // 2, 2, 9 and 2
		{inRow(9, 2, 2, 7, 2), "0 1 4 2 3", 2, "2 3", 9, true}, // 2, 9, 9 and 7
	} {
		order := numbers(row.order)
		what := brief(row.count, " shields for ", order, " of ", row.b)
		checkShields(t, row.b, order, row.count)
		shields, coupling, ok := impl.BestShields(row.b, order, row.count)
		same(t, what, results(shields, coupling, ok), results(numbers(row.shields), row.coupling, row.ok))
	}
}

// TestPromise11OneShieldMore leaves out the greatest of the weights that are
// left.
func TestPromise11OneShieldMore(t *testing.T) {
	severalBundles(200, 9, func(dice *rand.Rand, b impl.Bundle) {
		order := diceOrder(dice, b)
		weights := weightsBetween(b, order)
		slices.Sort(weights)
		slices.Reverse(weights)
		before, ok := impl.CouplingOf(b, order, nil)
		same(t, "coupling", ok, true)
		for i, weight := range weights {
			_, coupling, ok := impl.BestShields(b, order, int64(i+1))
			same(t, brief(i+1, " shields for ", order, " of ", b), results(coupling, ok), results(before-weight, true))
			before = coupling
		}
		same(t, "all shields for "+brief(order, b), before, 0)
	})
}

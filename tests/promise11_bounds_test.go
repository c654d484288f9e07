package tests

import (
	"math/rand"
	"slices"
	"testing"

	"loop.example/g01149/impl"
)

// checkBound compares the bound with a second computation, and with the best
// orders. It reports whether it is as great as their coupling.
func checkBound(t *testing.T, b impl.Bundle, want int64) bool {
	t.Helper()
	bound, ok := impl.TreeBound(b)
	same(t, "bound of "+brief(b), results(bound, ok), results(want, true))
	_, coupling, ok := impl.BestOrder(b, 0)
	same(t, "best order of "+brief(b), ok, true)
	if coupling < bound {
		t.Errorf("%s has an order with the coupling %d, but the bound is %d", brief(b), coupling, bound)
	}
	return coupling == bound
}

// TestPromise11Trees compares with all trees.
func TestPromise11Trees(t *testing.T) {
	reached, loose := 0, 0
	check := func(b impl.Bundle) {
		tree := treeByAll(b)
		same(t, "tree of "+brief(b), treeByWeights(b), tree)
		if checkBound(t, b, tree) {
			reached++
		} else {
			loose++
		}
	}
	tinyBundles(check)
	severalBundles(240, 6, func(_ *rand.Rand, b impl.Bundle) { check(b) })
	if reached < 300 || loose < 200 {
		t.Errorf("too few bounds are reached, %d, or not, %d", reached, loose)
	}
}

func TestPromise11SomeTrees(t *testing.T) {
	reached, loose := 0, 0
	severalBundles(450, 9, func(dice *rand.Rand, b impl.Bundle) {
		if checkBound(t, b, treeByWeights(b)) {
			reached++
		} else {
			loose++
		}
		bound, ok := impl.TreeBound(b)
		for range 5 {
			order := diceOrder(dice, b)
			coupling, is := impl.CouplingOf(b, order, nil)
			same(t, brief("bound and ", order, " of ", b), results(ok, is, coupling >= bound), results(true, true, true))
		}
	})
	if reached < 50 || loose < 80 {
		t.Errorf("too few bounds are reached, %d, or not, %d", reached, loose)
	}
}

func TestPromise11TreesByHand(t *testing.T) {
	star := evenBundle(9, 9) // one wire with weight 1 of all others
	for i := range int64(8) {
		setWeight(star, i, 8, 1)
	}
	for _, row := range []struct {
		b     impl.Bundle
		bound int64
		order int64 // the least coupling
	}{
		{bundle("0"), 0, 0}, // one wire
		{coupled(2, "7"), 7, 7},
		{coupled(2, "0"), 0, 0},
		{coupled(3, "5 1 2"), 3, 3},
		{coupled(3, "5 5 5"), 10, 10},
		{coupled(3, "1 5 2"), 3, 3},
		{coupled(4, "1 1 1 9 9 9"), 3, 11}, // a tree that is no order
		{coupled(4, "9 9 1 9 1 1"), 3, 11},
		{coupled(4, "1 9 9 9 9 1"), 11, 11}, // two pairs
		{coupled(4, "1 2 9 3 9 4"), 7, 7},
		{coupled(4, "9 8 7 6 5 4"), 16, 17},
		{coupled(5, "0 0 5 5 0 5 5 5 5 0"), 5, 5}, // two parts of weight 0
		{star, 8, 56},
		{evenBundle(9, 0), 0, 0},
		{evenBundle(9, 1000), 8000, 8000},
		{inRow(1000, 3, 1, 4, 1, 5, 9, 2, 6), 31, 31},
	} {
		checkBound(t, row.b, row.bound)
		_, coupling, ok := impl.BestOrder(row.b, 0)
		same(t, "best order of "+brief(row.b), results(coupling, ok), results(row.order, true))
	}
}

// TestPromise11TreesOtherNames gives the wires other numbers.
func TestPromise11TreesOtherNames(t *testing.T) {
	severalBundles(180, 9, func(dice *rand.Rand, b impl.Bundle) {
		names := diceOrder(dice, b)
		other := copyOf(b)
		for i, row := range b.Weights {
			for k, weight := range row {
				other.Weights[names[i]][names[k]] = weight
			}
		}
		one, _ := impl.TreeBound(b)
		two, _ := impl.TreeBound(other)
		same(t, "bound of "+brief(b, " with the names ", names), two, one)
		_, least, _ := impl.BestOrder(b, wiresIn(b)/2)
		best, coupling, _ := impl.BestOrder(other, wiresIn(b)/2)
		same(t, "best order of "+brief(b, " with the names ", names), coupling, least)
		back := make([]int64, len(best)) // the best order of the other names has as great a coupling here
		for i, wire := range best {
			back[i] = int64(slices.Index(names, wire))
		}
		_, coupling, _ = impl.BestShields(b, back, wiresIn(b)/2)
		same(t, "coupling of "+brief(back, b), coupling, least)
	})
}

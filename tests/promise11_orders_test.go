package tests

import (
	"math"
	"math/rand"
	"slices"
	"testing"

	"loop.example/g01149/impl"
)

// checkBest compares the best orders with so many shields with all orders.
func checkBest(t *testing.T, b impl.Bundle, all census) {
	t.Helper()
	for count, want := range all.best {
		what := brief("best order with ", count, " shields of ", b)
		order, coupling, ok := impl.BestOrder(b, int64(count))
		same(t, what, results(order, coupling, ok), results(want.first, want.least, true))
		_, own, ok := impl.BestShields(b, order, int64(count))
		same(t, "shields for "+what, results(own, ok), results(coupling, true))
	}
	for _, count := range []int64{-1, wiresIn(b), wiresIn(b) + 1} {
		order, coupling, ok := impl.BestOrder(b, count)
		same(t, brief("best order with ", count, " shields of ", b), results(order, coupling, ok), results(numbers(""), 0, false))
	}
}

// checkBetween compares the best orders between all wires, and some that there
// are not, with all orders.
func checkBetween(t *testing.T, b impl.Bundle, all census) {
	t.Helper()
	least := int64(math.MaxInt64)
	for first := int64(-1); first <= wiresIn(b); first++ {
		for last := int64(-1); last <= wiresIn(b); last++ {
			var want ranking
			found := all.between[[2]int64{first, last}]
			if found != nil {
				want = *found
				least = min(least, want.least)
			}
			order, coupling, ok := impl.BestBetween(b, first, last)
			same(t, brief("best order from ", first, " to ", last, " of ", b), results(order, coupling, ok), results(want.first, want.least, found != nil))
		}
	}
	same(t, "least of all between wires of "+brief(b), least, all.best[0].least)
}

// checkCounts compares the count of orders with some couplings with all orders.
func checkCounts(t *testing.T, b impl.Bundle, all census, couplings ...int64) {
	t.Helper()
	for _, coupling := range couplings {
		count, ok := impl.CountOrdersOf(b, coupling)
		same(t, brief("orders with ", coupling, " of ", b), results(count, ok), results(all.counts[coupling], true))
	}
}

func checkQuiet(t *testing.T, b impl.Bundle, all census) {
	t.Helper()
	order, noise, ok := impl.QuietOrder(b)
	same(t, "quiet order of "+brief(b), results(order, noise, ok), results(all.quiet.first, all.quiet.least, true))
	each, ok := impl.NoiseOf(b, order, nil)
	same(t, "noise of quiet order of "+brief(b), results(ok, slices.Max(each)), results(true, noise))
}

// couplingsOf has all couplings of orders, and some that are near.
func (all census) couplings() []int64 {
	near := map[int64]bool{0: true}
	for coupling := range all.counts {
		near[coupling] = true
		near[coupling+1] = true
	}
	return keysIn(near)
}

func keysIn(set map[int64]bool) []int64 {
	var keys []int64
	for key := range set {
		keys = append(keys, key)
	}
	slices.Sort(keys)
	return keys
}

// kinds counts how often several orders, more than the two directions of one,
// are equally good, and how often just these.
type kinds struct{ best, bestOne, between, betweenOne, quiet, quietOne int }

func (k *kinds) add(all census) {
	count := func(shared, few int64, several, one *int) {
		if shared > few {
			*several++
		} else {
			*one++
		}
	}
	for _, best := range all.best {
		count(best.shared, 2, &k.best, &k.bestOne)
	}
	for _, best := range all.between {
		count(best.shared, 1, &k.between, &k.betweenOne)
	}
	count(all.quiet.shared, 2, &k.quiet, &k.quietOne)
}

func (k kinds) check(t *testing.T, few int) {
	t.Helper()
	if min(k.best, k.bestOne, k.between, k.betweenOne, k.quiet, k.quietOne) < few {
		t.Errorf("too few of some kind are tried: %+v", k)
	}
}

func TestPromise11Orders(t *testing.T) {
	var seen kinds
	tinyBundles(func(b impl.Bundle) {
		all := takeCensus(b)
		seen.add(all)
		checkBest(t, b, all)
		checkBetween(t, b, all)
		checkQuiet(t, b, all)
		checkCounts(t, b, all, all.couplings()...)
	})
	seen.check(t, 100)
}

func TestPromise11SomeOrders(t *testing.T) {
	var seen kinds
	severalBundles(700, 7, func(dice *rand.Rand, b impl.Bundle) {
		all := takeCensus(b)
		seen.add(all)
		checkBest(t, b, all)
		checkBetween(t, b, all)
		checkQuiet(t, b, all)
		couplings := all.couplings()
		checkCounts(t, b, all, couplings[0], couplings[len(couplings)/2], couplings[len(couplings)-1], dice.Int63n(1000))
	})
	seen.check(t, 100)
}

// TestPromise11ManyWires has MaxWires wires, and one less.
func TestPromise11ManyWires(t *testing.T) {
	dice := rand.New(rand.NewSource(239))
	for i := range 12 {
		wires := int64(8 + i%2)
		b := diceBundle(dice, wires)
		if i%3 == 0 {
			b = farBundle(dice, wires, i%4 < 2)
		}
		all := takeCensus(b)
		checkBest(t, b, all)
		checkBetween(t, b, all)
		checkQuiet(t, b, all)
		couplings := all.couplings()
		checkCounts(t, b, all, couplings[0], couplings[1], couplings[len(couplings)/2], couplings[len(couplings)-1])
	}
}

// TestPromise11CountsTogether counts each order with just one coupling.
func TestPromise11CountsTogether(t *testing.T) {
	severalBundles(90, 6, func(_ *rand.Rand, b impl.Bundle) {
		all := takeCensus(b)
		sum, orders := int64(0), int64(1)
		for i := range wiresIn(b) {
			orders *= i + 1
		}
		for _, coupling := range all.couplings() {
			count, ok := impl.CountOrdersOf(b, coupling)
			same(t, brief("orders with ", coupling, " of ", b), results(count, ok), results(all.counts[coupling], true))
			sum += count
		}
		same(t, "all orders of "+brief(b), sum, orders)
	})
}

func TestPromise11OrdersByHand(t *testing.T) {
	one, three := bundle("0"), coupled(3, "5 1 2")
	for _, row := range []struct {
		b        impl.Bundle
		count    int64
		order    string
		coupling int64
		ok       bool
	}{
		{three, 0, "0 2 1", 3, true}, // the example
		{three, 1, "0 2 1", 1, true},
		{three, 2, "0 1 2", 0, true}, // all gaps have shields
		{three, 3, "", 0, false},
		{three, 4, "", 0, false},
		{three, -1, "", 0, false},
		{three, math.MaxInt64, "", 0, false},
		{three, math.MinInt64, "", 0, false},
		{three, 1<<32 + 1, "", 0, false},
		{one, 0, "0", 0, true}, // one wire
		{one, 1, "", 0, false},
		{one, -1, "", 0, false},
		{coupled(2, "7"), 0, "0 1", 7, true},
		{coupled(2, "7"), 1, "0 1", 0, true},
		{coupled(2, "7"), 2, "", 0, false},
		{coupled(3, "1 9 9"), 0, "0 1 2", 10, true},
		{coupled(3, "9 1 9"), 0, "0 2 1", 10, true},
		{coupled(3, "9 9 1"), 0, "0 1 2", 10, true},
		{coupled(3, "9 1 1"), 0, "0 2 1", 2, true},
		{coupled(3, "9 1 1"), 1, "0 1 2", 1, true}, // the greatest weight is beside the shield
		{coupled(3, "1 9 1"), 1, "0 1 2", 1, true},
		{coupled(3, "0 5 0"), 1, "0 1 2", 0, true}, // the shield is not needed
		{coupled(3, "0 5 5"), 1, "0 1 2", 0, true}, // of weight 0
		{coupled(3, "5 0 5"), 1, "0 2 1", 0, true},
		{coupled(3, "5 5 0"), 1, "0 1 2", 0, true}, // the shield comes first
		{coupled(4, "5 0 5 5 0 5"), 0, "0 2 1 3", 5, true},
		{coupled(4, "5 0 5 5 0 5"), 1, "0 2 1 3", 0, true},
		{coupled(4, "0 5 5 5 5 0"), 1, "0 1 2 3", 0, true},
		{coupled(4, "5 5 0 0 5 5"), 1, "0 3 1 2", 0, true},
		{evenBundle(9, 0), 0, "0 1 2 3 4 5 6 7 8", 0, true}, // all weights are 0, or equal
		{evenBundle(9, 0), 8, "0 1 2 3 4 5 6 7 8", 0, true},
		{evenBundle(9, 1000), 0, "0 1 2 3 4 5 6 7 8", 8000, true},
		{evenBundle(9, 1000), 3, "0 1 2 3 4 5 6 7 8", 5000, true},
		{evenBundle(9, 1000), 8, "0 1 2 3 4 5 6 7 8", 0, true},
		{evenBundle(9, 1000), 9, "", 0, false},
		{inRow(1000, 1, 1, 1, 1, 1, 1, 1, 1), 0, "0 1 2 3 4 5 6 7 8", 8, true},
		{inRow(0, 1, 1, 1, 1, 1, 1, 1, 1), 0, "0 2 4 1 3 6 8 5 7", 0, true},
	} {
		order, coupling, ok := impl.BestOrder(row.b, row.count)
		same(t, brief("best order with ", row.count, " shields of ", row.b), results(order, coupling, ok), results(numbers(row.order), row.coupling, row.ok))
	}
}

func TestPromise11BetweenByHand(t *testing.T) {
	one, three := bundle("0"), coupled(3, "5 1 2")
	four := coupled(4, "1 5 9 5 1 1")
	for _, row := range []struct {
		b           impl.Bundle
		first, last int64
		order       string
		coupling    int64
		ok          bool
	}{
		{one, 0, 0, "0", 0, true}, // one wire
		{one, 0, 1, "", 0, false},
		{one, 1, 0, "", 0, false},
		{one, 1, 1, "", 0, false},
		{one, -1, -1, "", 0, false},
		{one, 0, -1, "", 0, false},
		{coupled(2, "7"), 0, 1, "0 1", 7, true},
		{coupled(2, "7"), 1, 0, "1 0", 7, true},
		{coupled(2, "7"), 0, 0, "", 0, false}, // the same wire
		{coupled(2, "0"), 1, 1, "", 0, false},
		{three, 0, 1, "0 2 1", 3, true},
		{three, 0, 2, "0 1 2", 7, true},
		{three, 1, 0, "1 2 0", 3, true},
		{three, 1, 2, "1 0 2", 6, true},
		{three, 2, 0, "2 1 0", 7, true},
		{three, 2, 1, "2 0 1", 6, true},
		{three, 0, 0, "", 0, false},
		{three, 1, 1, "", 0, false},
		{three, 2, 2, "", 0, false},
		{three, 0, 3, "", 0, false}, // wires that there are not
		{three, 3, 0, "", 0, false},
		{three, 3, 3, "", 0, false},
		{three, -1, 0, "", 0, false},
		{three, 0, -1, "", 0, false},
		{three, 64, 65, "", 0, false},
		{three, 64, 1, "", 0, false},
		{three, 0, 1<<32 + 1, "", 0, false},
		{three, math.MinInt64, math.MaxInt64, "", 0, false},
		{three, math.MaxInt64, 0, "", 0, false},
		{three, 0, math.MinInt64, "", 0, false},
		{four, 0, 3, "0 1 2 3", 7, true},
		{four, 0, 1, "0 2 3 1", 7, true},
		{four, 0, 2, "0 1 3 2", 3, true},
		{four, 3, 2, "3 1 0 2", 7, true},
		{four, 1, 2, "1 0 3 2", 11, true},                   // the one between 11 and 15
		{coupled(3, "0 1000 0"), 1, 2, "1 0 2", 1000, true}, // 0 1 2 has the coupling 0
		{coupled(3, "0 1000 0"), 0, 1, "0 2 1", 1000, true},
		{evenBundle(9, 0), 8, 0, "8 1 2 3 4 5 6 7 0", 0, true},
		{evenBundle(9, 1000), 8, 0, "8 1 2 3 4 5 6 7 0", 8000, true},
		{evenBundle(9, 1000), 4, 5, "4 0 1 2 3 6 7 8 5", 8000, true},
		{evenBundle(9, 1000), 5, 5, "", 0, false},
		{evenBundle(9, 1000), 5, 9, "", 0, false},
	} {
		order, coupling, ok := impl.BestBetween(row.b, row.first, row.last)
		same(t, brief("best order from ", row.first, " to ", row.last, " of ", row.b), results(order, coupling, ok), results(numbers(row.order), row.coupling, row.ok))
	}
}

func TestPromise11CountsByHand(t *testing.T) {
	one, three := bundle("0"), coupled(3, "5 1 2")
	for _, row := range []struct {
		b        impl.Bundle
		coupling int64
		count    int64
		ok       bool
	}{
		{three, 3, 2, true},
		{three, 6, 2, true},
		{three, 7, 2, true},
		{three, 0, 0, true}, // couplings that no order has
		{three, 1, 0, true},
		{three, 4, 0, true},
		{three, 8, 0, true},
		{three, 1<<29 + 3, 0, true},
		{three, 1000000000, 0, true}, // MaxValue, and one more
		{three, 1000000001, 0, false},
		{three, 1<<32 + 3, 0, false},
		{three, math.MaxInt64, 0, false},
		{three, -1, 0, false}, // below 0
		{three, -3, 0, false},
		{three, math.MinInt64, 0, false},
		{one, 0, 1, true}, // one wire
		{one, 1, 0, true},
		{one, -1, 0, false},
		{one, 1000000000, 0, true},
		{one, 1000000001, 0, false},
		{coupled(2, "7"), 7, 2, true},
		{coupled(2, "7"), 0, 0, true},
		{coupled(2, "0"), 0, 2, true},
		{evenBundle(3, 0), 0, 6, true},
		{evenBundle(4, 5), 15, 24, true},
		{evenBundle(9, 0), 0, 362880, true},
		{evenBundle(9, 0), 1, 0, true},
		{evenBundle(9, 1000), 8000, 362880, true},
		{evenBundle(9, 1000), 7000, 0, true},
		{coupled(4, "1 0 0 0 0 1"), 0, 8, true}, // neither two are neighbours
		{coupled(4, "1 0 0 0 0 1"), 1, 8, true},
		{coupled(4, "1 0 0 0 0 1"), 2, 8, true},
		{inRow(1000, 0, 0, 0, 0, 0, 0, 0, 0), 0, 2, true},
	} {
		count, ok := impl.CountOrdersOf(row.b, row.coupling)
		same(t, brief("orders with ", row.coupling, " of ", row.b), results(count, ok), results(row.count, row.ok))
	}
}

func TestPromise11QuietByHand(t *testing.T) {
	for _, row := range []struct {
		b     impl.Bundle
		order string
		noise int64
	}{
		{bundle("0"), "0", 0}, // one wire
		{coupled(2, "7"), "0 1", 7},
		{coupled(2, "0"), "0 1", 0},
		{coupled(3, "5 1 2"), "0 2 1", 3},
		{coupled(3, "1 9 9"), "0 1 2", 10}, // the one between 1 and 9
		{coupled(3, "0 9 9"), "0 1 2", 9},
		{coupled(4, "9 4 4 4 4 9"), "0 2 1 3", 8},
		{coupled(4, "1 6 6 6 6 1"), "0 1 2 3", 7},
		{coupled(4, "0 6 3 6 3 0"), "0 1 3 2", 3},
		{coupled(4, "6 5 5 9 9 0"), "0 2 3 1", 9}, // the coupling of 1 0 2 3 is less
		{evenBundle(9, 0), "0 1 2 3 4 5 6 7 8", 0},
		{evenBundle(9, 1000), "0 1 2 3 4 5 6 7 8", 2000},
		{inRow(1000, 3, 1, 4, 1, 5, 9, 2, 6), "0 1 2 3 4 5 6 7 8", 14},
	} {
		order, noise, ok := impl.QuietOrder(row.b)
		same(t, "quiet order of "+brief(row.b), results(order, noise, ok), results(numbers(row.order), row.noise, true))
	}
}

// TestPromise11OrdersExample has what the document tells.
func TestPromise11OrdersExample(t *testing.T) {
	b := impl.Bundle{Weights: [][]int64{{0, 5, 1}, {5, 0, 2}, {1, 2, 0}}}
	order, coupling, one := impl.BestOrder(b, 0)
	bound, two := impl.TreeBound(b)
	same(t, "best order", results(order, coupling, one, bound, two), results(numbers("0 2 1"), 3, true, 3, true))
	order, coupling, one = impl.BestOrder(b, 1)
	shields, least, two := impl.BestShields(b, order, 1)
	same(t, "best order with a shield", results(order, coupling, one, shields, least, two), results(numbers("0 2 1"), 1, true, numbers("2"), 1, true))
}

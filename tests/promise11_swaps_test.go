package tests

import (
	"math"
	"math/rand"
	"slices"
	"testing"

	"loop.example/g01149/impl"
)

// checkGains compares the gains of all places with the couplings before and
// after the exchange.
func checkGains(t *testing.T, b impl.Bundle, order []int64) []int64 {
	t.Helper()
	what := brief(order, " of ", b)
	gains := gainsByRule(b, order)
	before, _ := impl.CouplingOf(b, order, nil)
	for place, want := range gains {
		gain, ok := impl.SwapGain(b, order, int64(place))
		same(t, brief("gain at ", place, " in ", what), results(gain, ok), results(want, true))
		after, _ := impl.CouplingOf(b, exchanged(order, place), nil)
		same(t, brief("coupling behind ", place, " in ", what), before-after, want)
	}
	for _, place := range []int64{-1, wiresIn(b) - 1, wiresIn(b)} {
		gain, ok := impl.SwapGain(b, order, place)
		same(t, brief("gain at ", place, " in ", what), results(gain, ok), results(0, false))
	}
	return gains
}

// checkSettled compares the settled order with the document's rule.
func checkSettled(t *testing.T, b impl.Bundle, order []int64) (exchanges, several int) {
	t.Helper()
	what := brief(order, " of ", b)
	want, exchanges, several := settleByRule(b, order)
	settled, coupling, ok := impl.SettleOrder(b, order)
	same(t, "settled "+what, results(settled, coupling, ok), results(want, couplingByRule(b, want, nil), true))
	for place := range settled[1:] {
		if gain, _ := impl.SwapGain(b, settled, int64(place)); gain > 0 {
			t.Errorf("settled %s still gains %d at %d", what, gain, place)
		}
	}
	again, least, ok := impl.SettleOrder(b, settled)
	same(t, "settled again "+what, results(again, least, ok), results(settled, coupling, true))
	return exchanges, several
}

// swapTally counts gains, and how orders settle.
type swapTally struct{ positive, none, negative, settled, once, often, several int }

func (a *swapTally) check(t *testing.T, b impl.Bundle, order []int64) {
	t.Helper()
	for _, gain := range checkGains(t, b, order) {
		switch {
		case gain > 0:
			a.positive++
		case gain < 0:
			a.negative++
		default:
			a.none++
		}
	}
	exchanges, several := checkSettled(t, b, order)
	switch exchanges {
	case 0:
		a.settled++
	case 1:
		a.once++
	default:
		a.often++
	}
	if several > 0 {
		a.several++
	}
}

func (a swapTally) enough(t *testing.T, few int) {
	t.Helper()
	if min(a.positive, a.none, a.negative, a.settled, a.once, a.often, a.several) < few {
		t.Errorf("too few of some kind are tried: %+v", a)
	}
}

func TestPromise11Swaps(t *testing.T) {
	var seen swapTally
	tinyBundles(func(b impl.Bundle) {
		ordersOver(wiresIn(b), func(order []int64) {
			if len(order) < 5 || order[0] == 2 {
				seen.check(t, b, order)
			}
		})
	})
	seen.enough(t, 500)
}

func TestPromise11SomeSwaps(t *testing.T) {
	var seen swapTally
	severalBundles(1500, 9, func(dice *rand.Rand, b impl.Bundle) { seen.check(t, b, diceOrder(dice, b)) })
	seen.enough(t, 100)
}

func TestPromise11GainsByHand(t *testing.T) {
	one, three, four := bundle("0"), coupled(3, "5 1 2"), coupled(4, "1 2 4 8 16 32")
	for _, row := range []struct {
		b     impl.Bundle
		order string
		place int64
		gain  int64
		ok    bool
	}{
		{three, "0 1 2", 0, 1, true},
		{three, "0 1 2", 1, 4, true}, // the last place with a wire behind it, and the one after it
		{three, "0 1 2", 2, 0, false},
		{three, "0 1 2", 3, 0, false},
		{three, "0 1 2", -1, 0, false}, // below 0
		{three, "0 1 2", math.MinInt64, 0, false},
		{three, "0 1 2", math.MaxInt64, 0, false},
		{three, "0 1 2", 1 << 32, 0, false},
		{three, "0 2 1", 0, -3, true}, // less than 0
		{three, "0 2 1", 1, -4, true},
		{three, "1 0 2", 0, -1, true},
		{three, "1 0 2", 1, 3, true},
		{four, "0 1 2 3", 0, 6, true},
		{four, "0 1 2 3", 1, 15, true}, // a wire before it and one behind it
		{four, "0 1 2 3", 2, -8, true},
		{one, "0", 0, 0, false}, // one wire
		{one, "0", -1, 0, false},
		{one, "0", 1, 0, false},
		{coupled(2, "7"), "0 1", 0, 0, true}, // of two wires
		{coupled(2, "7"), "0 1", 1, 0, false},
		{coupled(3, "5 5 9"), "0 1 2", 0, 4, true},
		{coupled(3, "5 5 9"), "0 1 2", 1, 0, true}, // 0
		{evenBundle(9, 0), "8 7 6 5 4 3 2 1 0", 7, 0, true},
		{evenBundle(9, 1000), "8 7 6 5 4 3 2 1 0", 3, 0, true},
		{evenBundle(9, 1000), "8 7 6 5 4 3 2 1 0", 8, 0, false},
		{inRow(0, 1000, 0, 1000, 0, 0, 0, 0, 0), "0 1 2 3 4 5 6 7 8", 1, 2000, true},
		{inRow(1000, 1000, 0, 1000, 0, 0, 0, 0, 0), "0 1 2 3 4 5 6 7 8", 1, 0, true},
		{inRow(1000, 0, 0, 0, 0, 0, 0, 0, 0), "0 1 2 3 4 5 6 7 8", 1, -2000, true},
		{inRow(1000, 0, 0, 0, 0, 0, 0, 0, 0), "0 1 2 3 4 5 6 7 8", 0, -1000, true},
		{three, "0 1", 0, 0, false}, // no orders
		{three, "0 1 1", 0, 0, false},
		{three, "0 1 3", 0, 0, false},
		{three, "0 1 -1", 0, 0, false},
		{three, "0 1 2 0", 0, 0, false},
		{three, "", 0, 0, false},
	} {
		gain, ok := impl.SwapGain(row.b, numbers(row.order), row.place)
		same(t, brief("gain at ", row.place, " in ", row.order, " of ", row.b), results(gain, ok), results(row.gain, row.ok))
	}
}

func TestPromise11SettledByHand(t *testing.T) {
	one, three := bundle("0"), coupled(3, "5 1 2")
	for _, row := range []struct {
		b        impl.Bundle
		order    string
		settled  string
		coupling int64
	}{
		{three, "0 1 2", "0 2 1", 3},
		{three, "0 2 1", "0 2 1", 3}, // has settled
		{three, "1 2 0", "1 2 0", 3},
		{three, "1 0 2", "1 2 0", 3},
		{three, "2 0 1", "0 2 1", 3},
		{three, "2 1 0", "1 2 0", 3},
		{one, "0", "0", 0}, // one wire
		{coupled(2, "7"), "1 0", "1 0", 7},
		{coupled(2, "0"), "0 1", "0 1", 0},
		{evenBundle(9, 0), "3 1 4 0 5 8 2 6 7", "3 1 4 0 5 8 2 6 7", 0},
		{evenBundle(9, 1000), "3 1 4 0 5 8 2 6 7", "3 1 4 0 5 8 2 6 7", 8000},
		{coupled(3, "9 5 9"), "0 1 2", "1 0 2", 14}, // the first one of two places
		{coupled(3, "9 5 9"), "2 1 0", "1 2 0", 14},
		{coupled(3, "9 5 8"), "0 1 2", "0 2 1", 13},           // the greater gain at the second place
		{coupled(4, "5 0 5 5 0 5"), "0 1 2 3", "0 2 1 3", 5},  // the middle place alone gains
		{coupled(4, "5 5 0 0 5 5"), "0 1 2 3", "0 1 2 3", 10}, // has settled, but is not the best one
	} {
		order := numbers(row.order)
		what := brief(order, " of ", row.b)
		checkSettled(t, row.b, order)
		settled, coupling, ok := impl.SettleOrder(row.b, order)
		same(t, "settled "+what, results(settled, coupling, ok), results(numbers(row.settled), row.coupling, true))
	}
	for _, order := range []string{"", "0 1", "0 1 1", "0 1 3", "0 1 -1", "0 1 2 0", "0 1 2 3"} {
		settled, coupling, ok := impl.SettleOrder(three, numbers(order))
		same(t, brief("settled ", order), results(settled, coupling, ok), results(numbers(""), 0, false))
	}
}

// TestPromise11Stuck has orders that have settled, but are not the best ones.
func TestPromise11Stuck(t *testing.T) {
	best, worse := 0, 0
	severalBundles(400, 9, func(dice *rand.Rand, b impl.Bundle) {
		_, least, _ := impl.BestOrder(b, 0)
		order := diceOrder(dice, b)
		before, _ := impl.CouplingOf(b, order, nil)
		settled, coupling, ok := impl.SettleOrder(b, order)
		same(t, "settled "+brief(order, b), results(ok, least <= coupling, coupling <= before, isOrderByRule(b, settled)), results(true, true, true, true))
		same(t, "not settled "+brief(order, b), coupling == before, slices.Equal(settled, order))
		if coupling == least {
			best++
		} else {
			worse++
		}
	})
	if best < 50 || worse < 50 {
		t.Errorf("too few settled orders are the best, %d, or not, %d", best, worse)
	}
}

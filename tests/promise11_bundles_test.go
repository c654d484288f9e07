package tests

import (
	"math"
	"math/rand"
	"slices"
	"testing"

	"loop.example/g01149/impl"
)

func TestPromise11Limits(t *testing.T) {
	same(t, "limits", results(impl.MaxWires, impl.MaxWeight), results(9, 1000))
}

// checkNoBundle checks that all functions with a bundle fail.
func checkNoBundle(t *testing.T, b impl.Bundle) {
	t.Helper()
	what := brief(b)
	var none []int64
	wires := wiresIn(b)
	for _, order := range [][]int64{nil, {0}, {0, 1}, {1, 0}, {2, 0, 1}, counting(0, 9), counting(0, 10), counting(0, min(wires, 20))} {
		for _, shields := range [][]int64{nil, {1}} {
			same(t, "layout of "+what, impl.IsLayout(b, order, shields), false)
			n, ok := impl.CouplingOf(b, order, shields)
			same(t, "coupling without "+what, results(n, ok), results(0, false))
			noise, ok := impl.NoiseOf(b, order, shields)
			same(t, "noise without "+what, results(noise, ok), results(none, false))
		}
		for _, n := range []int64{0, 1} {
			shields, coupling, ok := impl.BestShields(b, order, n)
			same(t, "shields without "+what, results(shields, coupling, ok), results(none, 0, false))
			gain, ok := impl.SwapGain(b, order, n)
			same(t, "gain without "+what, results(gain, ok), results(0, false))
		}
		settled, coupling, ok := impl.SettleOrder(b, order)
		same(t, "settled order without "+what, results(settled, coupling, ok), results(none, 0, false))
	}
	for _, n := range []int64{0, 1} {
		order, coupling, ok := impl.BestOrder(b, n)
		same(t, "best order without "+what, results(order, coupling, ok), results(none, 0, false))
		order, coupling, ok = impl.BestBetween(b, 0, n)
		same(t, "best order between wires without "+what, results(order, coupling, ok), results(none, 0, false))
		count, ok := impl.CountOrdersOf(b, n)
		same(t, "count without "+what, results(count, ok), results(0, false))
	}
	bound, ok := impl.TreeBound(b)
	same(t, "bound without "+what, results(bound, ok), results(0, false))
	order, noise, ok := impl.QuietOrder(b)
	same(t, "quiet order without "+what, results(order, noise, ok), results(none, 0, false))
}

// checkBundle checks what is reported of b, and returns it.
func checkBundle(t *testing.T, b impl.Bundle) bool {
	t.Helper()
	is, valid := isBundle(b), impl.ValidBundle(b)
	same(t, "valid "+brief(b), valid, is)
	if !is && !valid { // a bundle with too many wires would take too long
		checkNoBundle(t, b)
	}
	return is
}

func TestPromise11ValidBundle(t *testing.T) {
	for _, row := range []struct {
		b    impl.Bundle
		want bool
	}{
		{bundle("0"), true}, // wires
		{bundle("0 5|5 0"), true},
		{bundle("0 5 1|5 0 2|1 2 0"), true},
		{evenBundle(8, 3), true},
		{evenBundle(9, 3), true}, // MaxWires, and one more
		{evenBundle(10, 3), false},
		{evenBundle(10, 0), false},
		{evenBundle(64, 0), false},
		{evenBundle(65, 1), false},
		{impl.Bundle{}, false}, // none
		{impl.Bundle{Weights: [][]int64{}}, false},
		{bundle("0 0|0 0"), true}, // rows with nothing but 0
		{evenBundle(9, 0), true},

		{impl.Bundle{Weights: [][]int64{nil}}, false}, // rows that are too short
		{impl.Bundle{Weights: [][]int64{{}, {}}}, false},
		{bundle("0 5|5"), false},
		{bundle("0 5|"), false},
		{bundle("|5 0"), false},
		{bundle("0|5 0"), false},
		{bundle("0|0"), false},
		{bundle("0 5 1|5 0|1 2 0"), false},
		{bundle("0 5|5 0|1 2"), false}, // too many rows
		{bundle("0 5 1|5 0 2"), false}, // too few
		{bundle("0 5"), false},
		{bundle("0 0"), false}, // too long
		{bundle("0 5 1|5 0"), false},
		{bundle("0 5|5 0 1"), false},
		{bundle("0 5|5 0 0"), false},
		{bundle("0 5 1|5 0 2|1 2 0 0"), false},
		{impl.Bundle{Weights: append(evenBundle(9, 1).Weights[:8:8], slices.Repeat([]int64{0}, 10))}, false},

		{bundle("0 1000|1000 0"), true}, // weights
		{bundle("0 1001|1001 0"), false},
		{bundle("0 -1|-1 0"), false},
		{evenBundle(9, 1000), true},
		{evenBundle(9, 1001), false},
		{evenBundle(9, -1), false},
		{coupled(3, "0 0 1001"), false},
		{coupled(3, "0 1001 0"), false},
		{coupled(3, "0 0 -1"), false},
		{coupled(3, "0 -1 0"), false},
		{coupled(4, "1000 1000 1000 1000 1000 1001"), false},
		{evenBundle(2, math.MaxInt64), false},
		{evenBundle(2, math.MinInt64), false},
		{evenBundle(2, 1<<32), false},

		{bundle("0 5|4 0"), false}, // different in the two directions
		{bundle("0 4|5 0"), false},
		{bundle("0 0|1 0"), false},
		{bundle("0 1|0 0"), false},
		{bundle("0 5 1|5 0 2|1 3 0"), false},
		{bundle("0 5 1|5 0 2|2 2 0"), false},
		{bundle("0 5 1|5 0 3|1 2 0"), false},
		{bundle("0 1 2|0 0 3|0 0 0"), false},
		{bundle("0 1 1001|1 0 2|1 2 0"), false},

		{bundle("1"), false}, // of a wire and itself
		{bundle("-1"), false},
		{bundle("1000"), false},
		{bundle("1 5|5 0"), false},
		{bundle("0 5|5 1"), false},
		{bundle("0 5|5 -1"), false},
		{bundle("0 5 1|5 2 2|1 2 0"), false},
		{bundle("0 5 1|5 0 2|1 2 2"), false},
		{bundle("5 5|5 5"), false},
	} {
		same(t, "bundle "+brief(row.b), checkBundle(t, row.b), row.want)
	}
}

// TestPromise11ChangedBundles changes one number of a bundle.
func TestPromise11ChangedBundles(t *testing.T) {
	kept, broken := 0, 0
	check := func(b impl.Bundle) {
		if checkBundle(t, b) {
			kept++
		} else {
			broken++
		}
	}
	severalBundles(36, 9, func(dice *rand.Rand, b impl.Bundle) {
		for i, row := range b.Weights {
			check(impl.Bundle{Weights: slices.Delete(slices.Clone(b.Weights), i, i+1)})
			check(impl.Bundle{Weights: slices.Insert(slices.Clone(b.Weights), i, row)})
			for k := range row {
				for _, n := range []int64{-1, 0, row[k] + 1, 1000, 1001, row[k] + 1<<32} {
					changed := copyOf(b)
					changed.Weights[i][k] = n
					check(changed)
				}
				changed := copyOf(b)
				changed.Weights[i] = slices.Delete(changed.Weights[i], k, k+1)
				check(changed)
				changed.Weights[i] = slices.Insert(slices.Clone(row), k, 0)
				check(changed)
			}
		}
	})
	if kept < 100 || broken < 1000 {
		t.Errorf("too few bundles are still ones, %d, or not, %d", kept, broken)
	}
}

// checkLayout compares what is told of any order and shields with the document's
// rules.
func checkLayout(t *testing.T, b impl.Bundle, order, shields []int64) bool {
	t.Helper()
	what := brief(order, " with ", shields, " of ", b)
	is := isLayoutByRule(b, order, shields)
	want, wantNoise := int64(0), numbers("")
	if is {
		want, wantNoise = couplingByRule(b, order, shields), noiseByRule(b, order, shields)
	}
	same(t, "layout "+what, impl.IsLayout(b, order, shields), is)
	coupling, ok := impl.CouplingOf(b, order, shields)
	same(t, "coupling of "+what, results(coupling, ok), results(want, is))
	noise, ok := impl.NoiseOf(b, order, shields)
	same(t, "noise of "+what, results(noise, ok), results(wantNoise, is))
	same(t, "noise and coupling of "+what, total(noise), 2*coupling)
	return is
}

// checkOrder checks that what is no order is none for all functions with an
// order alone.
func checkOrder(t *testing.T, b impl.Bundle, order []int64) bool {
	t.Helper()
	what := brief(order, " of ", b)
	is := checkLayout(t, b, order, nil)
	_, _, ok := impl.BestShields(b, order, 0)
	same(t, "shields for "+what, ok, is)
	_, ok = impl.SwapGain(b, order, 0)
	same(t, "gain for "+what, ok, is && wiresIn(b) > 1)
	_, _, ok = impl.SettleOrder(b, order)
	same(t, "settled "+what, ok, is)
	return is
}

func TestPromise11Layouts(t *testing.T) {
	noisy := 0
	tinyBundles(func(b impl.Bundle) {
		wires := wiresIn(b)
		if wires == 5 && b.Weights[3][4] == 0 {
			return
		}
		ordersOver(wires, func(order []int64) {
			allShields(wires, func(shields []int64) {
				if wires == 5 && len(shields)%4 != 1 {
					return
				}
				checkLayout(t, b, order, shields)
				noisy++
			})
		})
	})
	if noisy < 50000 {
		t.Errorf("too few layouts are tried: %d", noisy)
	}
}

// TestPromise11SomeLayouts has layouts of up to MaxWires wires, and lists that
// differ a little from them.
func TestPromise11SomeLayouts(t *testing.T) {
	layouts, orders, none := 0, 0, 0
	severalBundles(300, 9, func(dice *rand.Rand, b impl.Bundle) {
		wires := int(wiresIn(b))
		order := diceOrder(dice, b)
		shields := slices.Sorted(slices.Values(moved(diceSegments(dice, wires-1, dice.Intn(wires)), 1)))
		same(t, "layout of "+brief(b), checkLayout(t, b, order, shields), true)
		for _, other := range changesOf(order) {
			if checkOrder(t, b, other) {
				orders++
			} else {
				none++
			}
		}
		for _, other := range append(changesOf(shields), []int64{int64(wires) - 1}, []int64{int64(wires)}, []int64{0}, []int64{-1}) {
			if checkLayout(t, b, order, other) {
				layouts++
			} else {
				none++
			}
		}
	})
	if layouts < 300 || orders < 1000 || none < 10000 {
		t.Errorf("too few lists are layouts, %d, or orders, %d, or not, %d", layouts, orders, none)
	}
}

func TestPromise11LayoutsByHand(t *testing.T) {
	four := coupled(4, "1 2 4 8 16 32")
	for _, row := range []struct {
		b              impl.Bundle
		order, shields string
		coupling       int64
		noise          string
	}{
		{bundle("0"), "0", "", 0, "0"}, // one wire
		{coupled(2, "7"), "0 1", "", 7, "7 7"},
		{coupled(2, "7"), "1 0", "", 7, "7 7"},
		{coupled(2, "7"), "0 1", "1", 0, "0 0"},
		{coupled(2, "0"), "0 1", "", 0, "0 0"}, // of weight 0
		{coupled(3, "5 1 2"), "0 1 2", "", 7, "5 7 2"},
		{coupled(3, "5 1 2"), "0 1 2", "1", 2, "0 2 2"}, // the example
		{coupled(3, "5 1 2"), "0 1 2", "2", 5, "5 5 0"},
		{coupled(3, "5 1 2"), "0 1 2", "1 2", 0, "0 0 0"}, // all shields
		{coupled(3, "5 1 2"), "0 2 1", "", 3, "1 2 3"},
		{coupled(3, "5 1 2"), "0 2 1", "2", 1, "1 0 1"},
		{coupled(3, "5 1 2"), "2 1 0", "1", 5, "5 5 0"}, // a shield is at a place of the order
		{four, "0 1 2 3", "", 41, "1 9 40 32"},
		{four, "3 0 2 1", "", 14, "6 8 10 4"},
		{four, "3 0 2 1", "2", 12, "4 8 8 4"},
		{four, "3 0 2 1", "1 3", 2, "2 0 2 0"},
		{four, "1 3 2 0", "", 50, "2 16 34 48"},
		{four, "1 3 2 0", "3", 48, "0 16 32 48"},
		{evenBundle(9, 1000), "8 7 6 5 4 3 2 1 0", "", 8000, "1000 2000 2000 2000 2000 2000 2000 2000 1000"},
		{evenBundle(9, 1000), "8 7 6 5 4 3 2 1 0", "8", 7000, "0 1000 2000 2000 2000 2000 2000 2000 1000"},
		{evenBundle(9, 1000), "0 2 4 6 8 1 3 5 7", "1 2 3 4 5 6 7 8", 0, "0 0 0 0 0 0 0 0 0"},
		{evenBundle(9, 0), "0 2 4 6 8 1 3 5 7", "4", 0, "0 0 0 0 0 0 0 0 0"},
	} {
		order, shields := numbers(row.order), numbers(row.shields)
		what := brief(order, " with ", shields, " of ", row.b)
		same(t, "layout "+what, checkLayout(t, row.b, order, shields), true)
		coupling, ok := impl.CouplingOf(row.b, order, shields)
		same(t, "coupling of "+what, results(coupling, ok), results(row.coupling, true))
		noise, ok := impl.NoiseOf(row.b, order, shields)
		same(t, "noise of "+what, results(noise, ok), results(numbers(row.noise), true))
	}
}

func TestPromise11NoLayouts(t *testing.T) {
	one, three, nine := bundle("0"), coupled(3, "5 1 2"), evenBundle(9, 4)
	for _, row := range []struct {
		b     impl.Bundle
		order string
		want  bool
	}{
		{one, "0", true},
		{one, "", false},
		{one, "1", false},
		{one, "-1", false},
		{one, "0 0", false},
		{one, "0 1", false},
		{three, "2 0 1", true},
		{three, "", false}, // too short
		{three, "2", false},
		{three, "2 0", false},
		{three, "0 1", false},
		{three, "2 0 1 3", false}, // too long
		{three, "2 0 1 0", false},
		{three, "2 0 1 1", false},
		{three, "2 0 0", false}, // a wire twice
		{three, "0 0 1", false},
		{three, "1 2 1", false},
		{three, "0 0 0", false},
		{three, "2 0 3", false}, // one that there is not
		{three, "3 2 1", false},
		{three, "1 2 3", false},
		{three, "64 0 1", false},
		{three, "0 1 66", false},
		{three, "0 1 -1", false}, // one below 0
		{three, "-1 0 1", false},
		{three, "0 1 -62", false},
		{three, "0 1 9223372036854775807", false},
		{three, "0 1 -9223372036854775808", false},
		{nine, "0 1 2 3 4 5 6 7 8", true},
		{nine, "0 1 2 3 4 5 6 7", false},
		{nine, "0 1 2 3 4 5 6 7 8 9", false},
		{nine, "1 2 3 4 5 6 7 8 9", false},
		{nine, "0 1 2 3 4 5 6 7 7", false},
	} {
		same(t, brief("order ", row.order, " of ", row.b), checkOrder(t, row.b, numbers(row.order)), row.want)
	}
	for _, row := range []struct {
		b       impl.Bundle
		shields string
		want    bool
	}{
		{one, "", true}, // none
		{one, "0", false},
		{one, "1", false},
		{three, "", true},
		{three, "1", true},
		{three, "2", true},
		{three, "1 2", true}, // all
		{three, "2 1", false},
		{three, "1 1", false}, // twice, between the same wires
		{three, "2 2", false},
		{three, "1 1 2", false},
		{three, "1 2 2", false},
		{three, "0", false}, // before the first wire
		{three, "0 1", false},
		{three, "3", false}, // behind the last wire
		{three, "1 3", false},
		{three, "1 2 3", false},
		{three, "-1", false},
		{three, "-1 1", false},
		{three, "1 -1", false},
		{three, "1 0", false},
		{three, "65", false},
		{three, "1 66", false},
		{three, "-63", false},
		{three, "9223372036854775807", false},
		{three, "-9223372036854775808", false},
		{nine, "1 2 3 4 5 6 7 8", true},
		{nine, "1 2 3 4 5 6 7 8 9", false},
		{nine, "0 1 2 3 4 5 6 7 8", false},
		{nine, "1 3 2 4", false},
		{nine, "1 4 8", true},
		{nine, "9", false},
	} {
		order := counting(0, wiresIn(row.b))
		same(t, brief("shields ", row.shields, " of ", row.b), checkLayout(t, row.b, order, numbers(row.shields)), row.want)
		same(t, brief("shields ", row.shields, " without an order of ", row.b), checkLayout(t, row.b, order[1:], numbers(row.shields)), false)
	}
}

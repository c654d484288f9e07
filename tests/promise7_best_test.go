package tests

import (
	"math/rand"
	"slices"
	"testing"

	"loop.example/g01149/impl"
)

func TestPromise7NearestJoins(t *testing.T) {
	several, single := 0, 0
	check := func(pins []impl.Point) {
		want, equal := nearestByRule(pins)
		joins, ok := impl.NearestJoins(pins)
		same(t, "nearest of "+brief(pins), results(joins, ok), results(want, true))
		if equal {
			several++
		} else {
			single++
		}
	}
	for count := 2; count <= 4; count++ {
		listsOver(square(3), count, check)
	}
	severalClocks(200, func(pins []impl.Point, _ [][]int64) { check(pins) })
	if several < 1000 || single < 200 {
		t.Errorf("too few have several pairs with the same least distance, %d, or never, %d", several, single)
	}
}

// sumOf adds the wires of joins.
func sumOf(t *testing.T, pins []impl.Point, joins [][]int64) int64 {
	t.Helper()
	wires, ok := impl.ClockWires(pins, joins)
	same(t, "wires of "+brief(pins, joins), ok, true)
	sum := int64(0)
	for _, wire := range wires {
		sum += wire
	}
	return sum
}

// TestPromise7BestJoins tries all joins, and all trees, too, whatever the order
// of their joins.
func TestPromise7BestJoins(t *testing.T) {
	all := map[int][][][]int64{}
	for count, want := range map[int]int{2: 1, 3: 3, 4: 18, 5: 180} {
		all[count] = allJoins(int64(count))
		same(t, "number of joins", len(all[count]), want)
	}
	several, single, better := 0, 0, 0
	check := func(pins []impl.Point) {
		what := brief(pins)
		var first [][]int64
		least, trees := int64(1<<40), 0
		for _, joins := range all[len(pins)] {
			sum := clockByRule(pins, joins).sum
			if sum < least {
				first, least, trees = joins, sum, 0
			}
			if sum == least {
				trees++
			}
		}
		joins, sum, ok := impl.BestJoins(pins)
		same(t, "best of "+what, results(joins, sum, ok), results(first, least, true))
		same(t, "wires of "+what, sumOf(t, pins, joins), sum)
		leastTree := slices.MinFunc(treesOver(pins, 1<<len(pins)-1), func(a, b grownTree) int { return int(a.sum - b.sum) })
		same(t, "least tree of "+what, leastTree.sum, sum)
		nearest, _ := impl.NearestJoins(pins)
		if other := sumOf(t, pins, nearest); other < sum {
			t.Errorf("nearest of %s have %d, less than %d", what, other, sum)
		} else if other > sum {
			better++
		}
		if trees > 1 {
			several++
		} else {
			single++
		}
	}
	listsOver(square(3), 2, check)
	listsOver(square(3), 3, check)
	listsOver(square(2), 4, check)
	dice := rand.New(rand.NewSource(113))
	for i := range 1200 {
		check(diceLeaves(dice, 3+i%3, []int{2, 4, 9, 100}[dice.Intn(4)]))
	}
	if several < 300 || single < 200 || better < 50 {
		t.Errorf("too few have several best joins, %d, or one, %d, or better ones than the nearest, %d", several, single, better)
	}
}

func TestPromise7JoinsByHand(t *testing.T) {
	for _, row := range []struct {
		pins          []impl.Point
		nearest, best [][]int64
		sum           int64
	}{
		{at(0, 0, 9, 0, 1, 0), lists("0 2|1 3"), lists("0 2|1 3"), 9*4096 + 2048},
		{at(0, 0, 2, 0), lists("0 1"), lists("0 1"), 8192},
		{at(0, 0, 99, 99), lists("0 1"), lists("0 1"), 198 * 4096},
		{at(4, 4, 4, 4), lists("0 1"), lists("0 1"), 0}, // the same pins
		{at(4, 4, 4, 4, 4, 4), lists("0 1|2 3"), lists("0 1|2 3"), 0},
		{at(4, 4, 4, 4, 4, 4, 4, 4, 4, 4), lists("0 1|2 3|4 5|6 7"), lists("0 1|2 3|4 5|6 7"), 0},
		{at(0, 0, 9, 9, 0, 0), lists("0 2|1 3"), lists("0 2|1 3"), 18 * 4096},
		{at(0, 0, 5, 0, 1, 0, 6, 0), lists("0 2|1 3|4 5"), lists("0 2|1 3|4 5"), 7 * 4096},
		{at(0, 0, 0, 2, 2, 0, 2, 2), lists("0 1|2 3|4 5"), lists("0 1|2 3|4 5"), 6 * 4096}, // two pairs are as good
	} {
		nearest, ok := impl.NearestJoins(row.pins)
		same(t, "nearest of "+brief(row.pins), results(nearest, ok), results(row.nearest, true))
		best, sum, ok := impl.BestJoins(row.pins)
		same(t, "best of "+brief(row.pins), results(best, sum, ok), results(row.best, row.sum, true))
	}
}

func TestPromise7JoinsFail(t *testing.T) {
	for _, row := range []struct {
		pins          []impl.Point
		nearest, best bool
	}{
		{nil, false, false}, // no pins
		{at(0, 0), false, false},
		{at(0, 0, 0, 0), true, true},
		{snake(5), true, true}, // MaxBest
		{snake(6), true, false},
		{snake(12), true, false}, // MaxLeaves
		{snake(13), false, false},
		{repeated(impl.Point{X: 7, Y: 7}, 5), true, true},
		{repeated(impl.Point{X: 7, Y: 7}, 6), true, false},
		{repeated(impl.Point{X: 7, Y: 7}, 12), true, false},
		{repeated(impl.Point{X: 7, Y: 7}, 13), false, false},
		{at(0, 0, 100, 0), false, false}, // points out of the grid
		{at(0, 0, 0, 100), false, false},
		{at(-1, 0, 0, 0), false, false},
		{at(0, -1, 0, 0), false, false},
		{at(0, 0, 1, 1, 2, 100), false, false},
	} {
		joins, ok := impl.NearestJoins(row.pins)
		same(t, "nearest of "+brief(row.pins), results(len(joins) > 0, ok), results(row.nearest, row.nearest))
		joins, sum, ok := impl.BestJoins(row.pins)
		same(t, "best of "+brief(row.pins), results(len(joins) > 0, ok), results(row.best, row.best))
		if !ok {
			same(t, "sum of "+brief(row.pins), sum, 0)
		}
	}
}

package tests

import (
	"fmt"
	"math/rand"
	"slices"
	"testing"

	"loop.example/g01149/impl"
)

// checkSpanning compares the spanning tree with that of the document's rule,
// and its length with another way to find the least one.
func checkSpanning(t *testing.T, pins []impl.Point) [][]int64 {
	t.Helper()
	what := "spanning tree of " + brief(pins)
	pairs, length, ok := impl.SpanningTree(pins)
	want, sum := treeByRule(pins)
	same(t, what, results(pairs, length, ok), results(want, sum, true))
	same(t, "length of "+what, length, leastJoin(pins))
	return pairs
}

func TestPromise6SpanningTree(t *testing.T) {
	for count := 1; count <= 4; count++ {
		tinyPins(3, count, func(pins []impl.Point) { checkSpanning(t, pins) })
	}
	severalPins(1500, 20, func(_ *rand.Rand, pins []impl.Point) { checkSpanning(t, pins) })
}

// TestPromise6AllSpanningTrees tries all spanning trees of few pins.
func TestPromise6AllSpanningTrees(t *testing.T) {
	several := 0
	severalPins(120, 6, func(_ *rand.Rand, pins []impl.Point) {
		pairs, length, _ := impl.SpanningTree(pins)
		trees, least, shortest := 0, int64(10000), 0
		isTree := false
		allSpanningTrees(len(pins), func(tree [][]int64) {
			trees++
			sum := lengthOfPairs(pins, tree)
			if sum < least {
				least, shortest = sum, 0
			}
			if sum == least {
				shortest++
			}
			isTree = isTree || slices.EqualFunc(tree, pairs, slices.Equal)
		})
		same(t, brief("trees of ", pins), results(length, isTree, lengthOfPairs(pins, pairs)), results(least, true, least))
		same(t, brief("number of trees of ", pins), trees, []int{0, 1, 1, 3, 16, 125, 1296}[len(pins)])
		if shortest > 1 {
			several++
		}
	})
	if several < 40 {
		t.Errorf("too few have several shortest trees: %d", several)
	}
}

func TestPromise6SpanningByHand(t *testing.T) {
	for _, row := range []struct {
		pins   []impl.Point
		pairs  string
		length int64
	}{
		{at(5, 7), "[]", 0}, // one pin
		{at(99, 0), "[]", 0},
		{at(5, 7, 2, 8), "[[0 1]]", 4}, // two pins
		{at(0, 0, 99, 99), "[[0 1]]", 198},
		{at(99, 0, 0, 99), "[[0 1]]", 198},
		{at(0, 0, 2, 0, 1, 2), "[[0 1] [0 2]]", 5}, // the document's example
		{oneRow(4, 0, 1, 3, 7), "[[0 1] [1 2] [2 3]]", 7},
		{oneRow(4, 7, 0, 3, 1), "[[0 2] [1 3] [2 3]]", 7}, // in one row, not in order
		{turned(oneRow(4, 7, 0, 3, 1)), "[[0 2] [1 3] [2 3]]", 7},
		{oneRow(99, 99, 0, 50), "[[0 2] [1 2]]", 99},
		{at(0, 0, 1, 0, 0, 1, 1, 1), "[[0 1] [0 2] [1 3]]", 3}, // a square: all sides are as long
		{at(1, 0, 0, 1, 2, 1, 1, 2), "[[0 1] [0 2] [0 3]]", 6}, // all pairs have the same distance
		{at(0, 0, 4, 0, 2, 0, 3, 1), "[[0 2] [1 2] [1 3]]", 6}, // 3 is as near to 1 as to 2
		{at(0, 0, 4, 0, 3, 1, 2, 0), "[[0 3] [1 2] [1 3]]", 6},
		{at(0, 0, 2, 2, 0, 2, 2, 0), "[[0 2] [0 3] [1 2]]", 6}, // 1 is as near to 2 as to 3: the greater index is less
		{at(0, 1, 5, 1, 3, 2, 3, 0), "[[0 2] [1 2] [2 3]]", 9},
		{at(1, 0, 0, 3, 3, 0, 3, 3, 0, 0), "[[0 2] [0 4] [1 3] [1 4]]", 9}, // 1 and 4 before 2 and 3: the lesser index is that of the pin that is not reached
		{at(0, 0, 9, 9, 1, 0, 8, 9), "[[0 2] [1 3] [2 3]]", 18},            // the greatest distance is taken in between
		{at(9, 9, 0, 0, 1, 0, 1, 1), "[[0 3] [1 2] [2 3]]", 18},            // the pin 0 is far away
		{at(5, 5, 4, 5, 6, 5, 5, 4), "[[0 1] [0 2] [0 3]]", 3},             // a star around the pin 0
		{at(4, 5, 5, 5, 6, 5, 5, 4), "[[0 1] [1 2] [1 3]]", 3},             // around the pin 1
		{at(4, 5, 6, 5, 5, 4, 5, 5), "[[0 3] [1 3] [2 3]]", 3},             // around the last pin
		{at(0, 0, 6, 0, 6, 2, 0, 2), "[[0 1] [0 3] [1 2]]", 10},            // taken in the order 0 3, 0 1, 1 2
		{at(0, 50, 99, 50, 0, 0), "[[0 1] [0 2]]", 149},                    // taken in the order 0 2, 0 1
	} {
		want, _ := treeByRule(row.pins)
		pairs, length, ok := impl.SpanningTree(row.pins)
		same(t, "tree of "+brief(row.pins), results(pairs, length, ok), results(row.pairs, row.length, true))
		same(t, "rule of "+brief(row.pins), want, row.pairs)
	}
}

// TestPromise6PairsInOrder checks the form of the pairs of as many pins as can be.
func TestPromise6PairsInOrder(t *testing.T) {
	dice := rand.New(rand.NewSource(67))
	for _, side := range []int{5, 8, 100} {
		for range 200 {
			pairs := checkSpanning(t, dicePins(dice, 20, side, side))
			same(t, "sorted", slices.IsSortedFunc(pairs, slices.Compare), true)
			for _, pair := range pairs {
				same(t, fmt.Sprint("lesser index first in ", pair), pair[0] < pair[1], true)
			}
		}
	}
}

func TestPromise6BoxBound(t *testing.T) {
	for _, row := range []struct {
		pins []impl.Point
		want int64
	}{
		{at(5, 7), 0},
		{at(0, 0), 0},
		{at(5, 7, 5, 8), 1},
		{at(0, 0, 99, 99), 198},
		{at(99, 0, 0, 99), 198},
		{at(0, 0, 2, 0, 1, 2), 4},
		{oneRow(3, 9, 2, 5), 7},
		{turned(oneRow(3, 9, 2, 5)), 7},
		{at(50, 0, 0, 50, 99, 50, 50, 99), 198}, // no pin in a corner of the box
		{snake(20), 19},
		{square(100)[:20], 19},
	} {
		box, ok := impl.BoxBound(row.pins)
		same(t, "box of "+brief(row.pins), results(box, ok), results(row.want, true))
	}
	severalPins(1000, 20, func(_ *rand.Rand, pins []impl.Point) {
		box, ok := impl.BoxBound(pins)
		_, length, _ := impl.SpanningTree(pins)
		same(t, "box of "+brief(pins), results(box, ok, box <= length), results(boxByHand(pins), true, true))
	})
}

func boxByHand(pins []impl.Point) int64 {
	byX := slices.SortedFunc(slices.Values(pins), func(p, q impl.Point) int { return int(p.X - q.X) })
	byY := slices.SortedFunc(slices.Values(pins), func(p, q impl.Point) int { return int(p.Y - q.Y) })
	return byX[len(pins)-1].X - byX[0].X + byY[len(pins)-1].Y - byY[0].Y
}

func sumFrom(pins []impl.Point, root impl.Point) int64 {
	sum := int64(0)
	for _, p := range pins {
		sum += far(p, root)
	}
	return sum
}

func TestPromise6StarLength(t *testing.T) {
	for _, row := range []struct {
		pins []impl.Point
		root impl.Point
		want int64
	}{
		{at(5, 7), impl.Point{X: 5, Y: 7}, 0},
		{at(5, 7), impl.Point{}, 12},
		{at(0, 0, 2, 0, 1, 2), impl.Point{}, 5},
		{at(0, 0, 2, 0, 1, 2), impl.Point{X: 1}, 4},
		{at(0, 0), impl.Point{X: 99, Y: 99}, 198},
		{at(99, 99, 98, 99), impl.Point{}, 395},
		{snake(20), impl.Point{}, 190},
		{snake(20), impl.Point{X: 99, Y: 99}, 20*198 - 190},
	} {
		sum, ok := impl.StarLength(row.pins, row.root)
		same(t, brief("star from ", row.root, " of ", row.pins), results(sum, ok), results(row.want, true))
	}
	severalPins(400, 20, func(dice *rand.Rand, pins []impl.Point) {
		for _, root := range append(dicePins(dice, 5, 100, 100), pins[0]) {
			sum, ok := impl.StarLength(pins, root)
			same(t, brief("star from ", root, " of ", pins), results(sum, ok), results(sumFrom(pins, root), true))
		}
	})
}

// rootByHand tries all points of the grid in the order of their X, and then Y,
// and tells how many are the best. The sums of the X and Y are apart.
func rootByHand(pins []impl.Point) (root impl.Point, least int64, count int) {
	var across, up [100]int64
	for n := range int64(100) {
		for _, p := range pins {
			across[n] += stepsBetween(p.X, n)
			up[n] += stepsBetween(p.Y, n)
		}
	}
	for x := range across {
		for y := range up {
			sum := across[x] + up[y]
			if count == 0 || sum < least {
				root, least, count = impl.Point{X: int64(x), Y: int64(y)}, sum, 0
			}
			if sum == least {
				count++
			}
		}
	}
	return root, least, count
}

func TestPromise6BestRoot(t *testing.T) {
	several, noPin := 0, 0
	check := func(pins []impl.Point) {
		root, sum, ok := impl.BestRoot(pins)
		want, least, count := rootByHand(pins)
		same(t, brief("root of ", pins), results(root, sum, ok), results(want, least, true))
		if count > 1 {
			several++
		}
		if !slices.Contains(pins, root) {
			noPin++
		}
		star, ok := impl.StarLength(pins, root)
		same(t, brief("star of ", pins), results(star, ok), results(sum, true))
	}
	severalPins(300, 20, func(_ *rand.Rand, pins []impl.Point) { check(pins) })
	for count := 1; count <= 3; count++ {
		tinyPins(3, count, check)
	}
	if several < 200 || noPin < 200 {
		t.Errorf("too few have several best roots, %d, or one that is no pin, %d", several, noPin)
	}
}

func TestPromise6RootByHand(t *testing.T) {
	for _, row := range []struct {
		pins []impl.Point
		root impl.Point
		sum  int64
	}{
		{at(5, 7), impl.Point{X: 5, Y: 7}, 0},
		{at(0, 0), impl.Point{}, 0},
		{at(99, 99), impl.Point{X: 99, Y: 99}, 0},
		{at(5, 7, 2, 8), impl.Point{X: 2, Y: 7}, 4}, // several: the least X, and of these the least Y
		{at(0, 99, 99, 0), impl.Point{}, 198},
		{at(9, 3, 2, 3), impl.Point{X: 2, Y: 3}, 7},
		{at(3, 9, 3, 2), impl.Point{X: 3, Y: 2}, 7},
		{at(0, 0, 2, 0, 1, 2), impl.Point{X: 1}, 4},
		{at(0, 0, 0, 9, 9, 0, 9, 9), impl.Point{}, 36},
		{at(1, 5, 3, 5, 6, 5, 8, 5), impl.Point{X: 3, Y: 5}, 10},
		{at(99, 99, 98, 99, 99, 98), impl.Point{X: 99, Y: 99}, 2},
	} {
		root, sum, ok := impl.BestRoot(row.pins)
		same(t, brief("root of ", row.pins), results(root, sum, ok), results(row.root, row.sum, true))
	}
}

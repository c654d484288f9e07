package tests

import (
	"fmt"
	"testing"

	"loop.example/g01149/impl"
)

func TestPromise2Limits(t *testing.T) {
	same(t, "limits", results(impl.MaxCoord, impl.MaxPoints, impl.MaxValue, impl.MaxItems, impl.CheckSize),
		results(99, 24, 1000000000, 60, 65521))
}

func TestPromise2IsPoint(t *testing.T) {
	for x := int64(-3); x <= 103; x++ {
		for y := int64(-3); y <= 103; y++ {
			want := x >= 0 && x <= 99 && y >= 0 && y <= 99
			if got := impl.IsPoint(impl.Point{X: x, Y: y}); got != want {
				t.Errorf("IsPoint %d.%d: %t", x, y, got)
			}
		}
	}
	for _, p := range strangers() {
		same(t, fmt.Sprint("IsPoint ", p), impl.IsPoint(p), false)
	}
}

// stepsBetween counts the steps from one number to another one.
func stepsBetween(a, b int64) int64 {
	count := int64(0)
	for ; a < b; a++ {
		count++
	}
	for ; a > b; a-- {
		count++
	}
	return count
}

func TestPromise2DistanceOf(t *testing.T) {
	d, ok := impl.DistanceOf(impl.Point{X: 1, Y: 2}, impl.Point{X: 4, Y: 0})
	same(t, "example", results(d, ok), results(5, true))
	var points []impl.Point
	for _, x := range []int64{0, 1, 2, 49, 98, 99} {
		for _, y := range []int64{0, 1, 2, 49, 98, 99} {
			points = append(points, impl.Point{X: x, Y: y})
		}
	}
	for _, p := range points {
		for _, q := range points {
			d, ok := impl.DistanceOf(p, q)
			same(t, fmt.Sprint("DistanceOf ", p, q), results(d, ok), results(stepsBetween(p.X, q.X)+stepsBetween(p.Y, q.Y), true))
		}
		for _, q := range strangers() {
			d, ok := impl.DistanceOf(p, q)
			same(t, fmt.Sprint("DistanceOf ", p, q), results(d, ok), results(0, false))
			d, ok = impl.DistanceOf(q, p)
			same(t, fmt.Sprint("DistanceOf ", q, p), results(d, ok), results(0, false))
		}
	}
	for _, p := range strangers() {
		d, ok := impl.DistanceOf(p, p)
		same(t, fmt.Sprint("DistanceOf ", p, p), results(d, ok), results(0, false))
	}
}

func TestPromise2ArePoints(t *testing.T) {
	for _, list := range [][]impl.Point{nil, {}, at(0, 0), at(99, 99, 0, 99, 99, 0), at(1, 2, 1, 2), snake(24), repeated(impl.Point{}, 24)} {
		same(t, fmt.Sprint("ArePoints ", list), impl.ArePoints(list), true)
	}
	for _, list := range invalidLists() {
		same(t, fmt.Sprint("ArePoints ", list), impl.ArePoints(list), false)
	}
}

// invalidLists are lists that ArePoints does not report.
func invalidLists() [][]impl.Point {
	lists := [][]impl.Point{snake(25), repeated(impl.Point{}, 25), snake(577)}
	for _, p := range strangers() {
		one := []impl.Point{p}
		lists = append(lists, one, join(one, at(1, 2)), join(at(1, 2), one), join(at(1, 2), one, at(3, 4)), join(snake(23), one))
	}
	return lists
}

// scattered are lists of points that differ in size and order.
func scattered() [][]impl.Point {
	lists := [][]impl.Point{at(1, 2, 4, 0, 1, 2), at(99, 0, 0, 99), at(99, 99), at(0, 0), snake(24), repeated(impl.Point{X: 9, Y: 9}, 24)}
	seed := uint32(7)
	for length := 1; length <= 24; length++ {
		for _, width := range []uint32{2, 5, 100} {
			var list []impl.Point
			for range length {
				seed = seed*1664525 + 1013904223
				x := seed >> 8 % width
				seed = seed*1664525 + 1013904223
				list = append(list, impl.Point{X: int64(seed >> 8 % width), Y: int64(x)})
			}
			lists = append(lists, list)
		}
	}
	return lists
}

// isBox reports whether low and high are in the rows and columns of points,
// and no point is outside of them.
func isBox(list []impl.Point, low, high impl.Point) bool {
	var left, right, down, up bool
	for _, p := range list {
		if p.X < low.X || p.X > high.X || p.Y < low.Y || p.Y > high.Y {
			return false
		}
		left, right = left || p.X == low.X, right || p.X == high.X
		down, up = down || p.Y == low.Y, up || p.Y == high.Y
	}
	return left && right && down && up
}

func TestPromise2BoxOf(t *testing.T) {
	low, high, ok := impl.BoxOf(at(5, 1, 2, 9, 4, 7))
	same(t, "box", results(low, high, ok), results(impl.Point{X: 2, Y: 1}, impl.Point{X: 5, Y: 9}, true))
	low, high, ok = impl.BoxOf(at(99, 3))
	same(t, "box of one", results(low, high, ok), results(impl.Point{X: 99, Y: 3}, impl.Point{X: 99, Y: 3}, true))
	check := func(list []impl.Point) {
		if low, high, ok := impl.BoxOf(list); !ok || !isBox(list, low, high) {
			t.Errorf("BoxOf %v: %v %v %t", list, low, high, ok)
		}
	}
	for _, list := range scattered() {
		check(list)
	}
	for length := 1; length <= 3; length++ {
		listsOver(square(3), length, check)
	}
	for _, list := range append(invalidLists(), nil, []impl.Point{}) {
		low, high, ok := impl.BoxOf(list)
		same(t, fmt.Sprint("BoxOf ", list), results(low, high, ok), results(impl.Point{}, impl.Point{}, false))
	}
}

// isNearest reports whether all points before an index are farther from p,
// and no point is nearer.
func isNearest(list []impl.Point, p impl.Point, index int64) bool {
	if index < 0 || index >= int64(len(list)) {
		return false
	}
	far := func(q impl.Point) int64 { return stepsBetween(p.X, q.X) + stepsBetween(p.Y, q.Y) }
	for i, q := range list {
		if far(q) < far(list[index]) || int64(i) < index && far(q) == far(list[index]) {
			return false
		}
	}
	return true
}

func TestPromise2NearestPoint(t *testing.T) {
	i, ok := impl.NearestPoint(at(0, 0, 4, 5, 6, 5, 5, 4), impl.Point{X: 5, Y: 5})
	same(t, "first of several", results(i, ok), results(1, true))
	i, ok = impl.NearestPoint(snake(24), impl.Point{X: 99, Y: 99})
	same(t, "last", results(i, ok), results(23, true))
	check := func(list []impl.Point) {
		for _, p := range at(0, 0, 1, 1, 2, 0, 1, 2, 50, 50, 99, 99) {
			if i, ok := impl.NearestPoint(list, p); !ok || !isNearest(list, p, i) {
				t.Errorf("NearestPoint %v %v: %d %t", list, p, i, ok)
			}
		}
	}
	for _, list := range scattered() {
		check(list)
	}
	for length := 1; length <= 3; length++ {
		listsOver(square(3), length, check)
	}
	for _, p := range strangers() {
		i, ok := impl.NearestPoint(at(1, 2, 3, 4), p)
		same(t, fmt.Sprint("NearestPoint to ", p), results(i, ok), results(0, false))
	}
	for _, list := range append(invalidLists(), nil, []impl.Point{}) {
		i, ok := impl.NearestPoint(list, impl.Point{X: 1, Y: 2})
		same(t, fmt.Sprint("NearestPoint of ", list), results(i, ok), results(0, false))
	}
}

// inOrder picks all points of the grid that are in a list, column by column.
func inOrder(list []impl.Point) []impl.Point {
	present := map[impl.Point]bool{}
	for _, p := range list {
		present[p] = true
	}
	var sorted []impl.Point
	for _, p := range square(100) {
		if present[p] {
			sorted = append(sorted, p)
		}
	}
	return sorted
}

func TestPromise2SortPoints(t *testing.T) {
	list, ok := impl.SortPoints(at(5, 1, 2, 9, 5, 0, 2, 9, 0, 99))
	same(t, "sorted", results(list, ok), results(at(0, 99, 2, 9, 5, 0, 5, 1), true))
	list, ok = impl.SortPoints(nil)
	same(t, "sorted nothing", results(list, ok), results(at(), true))
	list, ok = impl.SortPoints(repeated(impl.Point{X: 4, Y: 3}, 24))
	same(t, "one point", results(list, ok), results(at(4, 3), true))
	for _, list := range scattered() {
		got, ok := impl.SortPoints(list)
		same(t, fmt.Sprint("SortPoints ", list), results(got, ok), results(inOrder(list), true))
	}
	for _, list := range invalidLists() {
		got, ok := impl.SortPoints(list)
		same(t, fmt.Sprint("SortPoints ", list), results(got, ok), results(at(), false))
	}
}

package tests

import (
	"fmt"
	"math"
	"testing"

	"loop.example/g01149/impl"
)

// same compares what is printed, so that a nil list and an empty one are equal.
func same(t *testing.T, what string, got, want any) {
	t.Helper()
	g, w := fmt.Sprintf("%+v", got), fmt.Sprintf("%+v", want)
	if g != w {
		t.Errorf("%s: got %.400s, want %.400s", what, g, w)
	}
}

// results makes one list of all results of a call.
func results(all ...any) []any { return all }

// brief is the beginning of what is printed for a name.
func brief(all ...any) string {
	text := fmt.Sprint(all...)
	return text[:min(len(text), 120)]
}

// at makes points of pairs of X and Y.
func at(numbers ...int64) []impl.Point {
	var list []impl.Point
	for i := 0; i+1 < len(numbers); i += 2 {
		list = append(list, impl.Point{X: numbers[i], Y: numbers[i+1]})
	}
	return list
}

func join(lists ...[]impl.Point) []impl.Point {
	var all []impl.Point
	for _, list := range lists {
		all = append(all, list...)
	}
	return all
}

// repeated is a list of count times the same point.
func repeated(p impl.Point, count int) []impl.Point {
	list := make([]impl.Point, count)
	for i := range list {
		list[i] = p
	}
	return list
}

// strangers are points just outside of the grid, and far outside.
func strangers() []impl.Point {
	return at(-1, 0, 0, -1, 100, 0, 0, 100, 100, 100, -1, -1,
		math.MinInt64, 0, 0, math.MinInt64, math.MaxInt64, 0, 0, math.MaxInt64,
		math.MinInt64, math.MaxInt64)
}

// square has the points of a square in the order of their X, and then Y.
func square(side int64) []impl.Point {
	var list []impl.Point
	for x := range side {
		for y := range side {
			list = append(list, impl.Point{X: x, Y: y})
		}
	}
	return list
}

// listsOver calls visit with each list of so many of the points. The list
// is the same memory for all calls.
func listsOver(points []impl.Point, length int, visit func([]impl.Point)) {
	list := make([]impl.Point, length)
	var fill func(i int)
	fill = func(i int) {
		if i == length {
			visit(list)
			return
		}
		for _, p := range points {
			list[i] = p
			fill(i + 1)
		}
	}
	fill(0)
}

// snake is a path of count points that goes to and fro between X 0 and 23.
func snake(count int64) []impl.Point {
	var list []impl.Point
	for i := range count {
		x, y := i%24, i/24
		if y%2 == 1 {
			x = 23 - x
		}
		list = append(list, impl.Point{X: x, Y: y})
	}
	return list
}

// stairs is a path of count points that bends at each but its ends.
func stairs(count int64) []impl.Point {
	var list []impl.Point
	for i := range count {
		list = append(list, impl.Point{X: (i + 1) / 2, Y: i / 2})
	}
	return list
}

package tests

import (
	"fmt"
	"slices"
	"testing"

	"loop.example/g01149/impl"
)

// pathsInSquare returns all paths in a square by their texts: each path is
// a shorter one with one more point in one of four directions.
func pathsInSquare(side int64) map[string][]impl.Point {
	all := map[string][]impl.Point{}
	var extend func(list []impl.Point)
	extend = func(list []impl.Point) {
		all[fmt.Sprint(list)] = slices.Clone(list)
		end := list[len(list)-1]
		for _, d := range at(1, 0, -1, 0, 0, 1, 0, -1) {
			next := impl.Point{X: end.X + d.X, Y: end.Y + d.Y}
			inside := next.X >= 0 && next.X < side && next.Y >= 0 && next.Y < side
			if inside && !slices.Contains(list, next) {
				extend(append(slices.Clone(list), next))
			}
		}
	}
	for _, p := range square(side) {
		extend([]impl.Point{p})
	}
	return all
}

// turns returns the points of a path at which its direction changes.
func turns(list []impl.Point) []impl.Point {
	var found []impl.Point
	for i := 1; i+1 < len(list); i++ {
		in := impl.Point{X: list[i].X - list[i-1].X, Y: list[i].Y - list[i-1].Y}
		out := impl.Point{X: list[i+1].X - list[i].X, Y: list[i+1].Y - list[i].Y}
		if in != out {
			found = append(found, list[i])
		}
	}
	return found
}

// ends puts the first and the last point of a path around its turns.
func ends(list []impl.Point) []impl.Point {
	if len(list) == 1 {
		return list
	}
	return join(list[:1], turns(list), list[len(list)-1:])
}

// checkPath checks everything that chapter 1 tells of a path.
func checkPath(t *testing.T, list []impl.Point) {
	t.Helper()
	what := "path " + brief(list)
	same(t, what, impl.IsPath(list), true)
	n, ok := impl.LengthOf(list)
	same(t, "length of "+what, results(n, ok), results(len(list)-1, true))
	n, ok = impl.BendsOf(list)
	same(t, "bends of "+what, results(n, ok), results(len(turns(list)), true))
	corners, ok := impl.CornersOf(list)
	same(t, "corners of "+what, results(corners, ok), results(ends(list), true))
	back, ok := impl.PathThrough(ends(list))
	same(t, "through the corners of "+what, results(back, ok), results(list, true))
}

// checkNoPath checks that the functions with a path fail.
func checkNoPath(t *testing.T, list []impl.Point) {
	t.Helper()
	what := "no path " + brief(list)
	same(t, what, impl.IsPath(list), false)
	n, ok := impl.LengthOf(list)
	same(t, "length of "+what, results(n, ok), results(0, false))
	n, ok = impl.BendsOf(list)
	same(t, "bends of "+what, results(n, ok), results(0, false))
	corners, ok := impl.CornersOf(list)
	same(t, "corners of "+what, results(corners, ok), results(at(), false))
}

func TestPromise2Paths(t *testing.T) {
	for _, list := range pathsInSquare(3) {
		checkPath(t, list)
	}
	for _, list := range [][]impl.Point{
		at(0, 0), at(99, 99), at(0, 99), at(0, 0, 1, 0, 1, 1), at(98, 99, 99, 99, 99, 98),
		snake(2), snake(24), snake(25), snake(575), snake(576), stairs(25), stairs(199),
	} {
		checkPath(t, list)
	}
}

func TestPromise2PathExample(t *testing.T) {
	list := at(0, 0, 1, 0, 1, 1)
	n, one := impl.LengthOf(list)
	bends, two := impl.BendsOf(list)
	corners, three := impl.CornersOf(list)
	same(t, "example", results(n, one, bends, two, corners, three), results(2, true, 1, true, at(0, 0, 1, 0, 1, 1), true))
	corners, one = impl.CornersOf(at(4, 7))
	bends, two = impl.BendsOf(at(4, 7))
	n, three = impl.LengthOf(at(4, 7))
	same(t, "one point", results(corners, one, bends, two, n, three), results(at(4, 7), true, 0, true, 0, true))
	corners, one = impl.CornersOf(at(4, 7, 4, 6, 4, 5, 5, 5, 6, 5))
	same(t, "corners", results(corners, one), results(at(4, 7, 4, 5, 6, 5), true))
}

// TestPromise2IsPath decides of all short lists in a square whether they
// are paths, and of all other ones that nothing is told of them.
func TestPromise2IsPath(t *testing.T) {
	paths := pathsInSquare(3)
	for length := 0; length <= 4; length++ {
		listsOver(square(3), length, func(list []impl.Point) {
			if paths[fmt.Sprint(list)] == nil {
				checkNoPath(t, list)
			} else {
				same(t, fmt.Sprint("IsPath ", list), impl.IsPath(list), true)
			}
		})
	}
}

func TestPromise2NoPaths(t *testing.T) {
	checkNoPath(t, nil)
	for _, list := range [][]impl.Point{
		{}, at(1, 1, 1, 1), at(0, 0, 1, 1), at(0, 0, 2, 0), at(0, 0, 1, 0, 0, 0), at(0, 0, 1, 0, 1, 1, 0, 1, 0, 0),
		at(99, 0, 100, 0), at(0, 0, -1, 0), at(0, 99, 0, 100), at(0, 0, 0, -1), at(100, 0, 99, 0), at(99, 0, 0, 1),
		snake(577), snake(600), stairs(201), square(2), join(snake(576), at(0, 24)),
	} {
		checkNoPath(t, list)
	}
	for _, p := range strangers() {
		checkNoPath(t, []impl.Point{p})
		checkNoPath(t, []impl.Point{p, {X: p.X + 1, Y: p.Y}})
		checkNoPath(t, []impl.Point{{X: 0, Y: 0}, p})
	}
}

// TestPromise2PathThrough decides of all short lists in a square whether
// they are the corners of a path, and of which one.
func TestPromise2PathThrough(t *testing.T) {
	through := map[string][]impl.Point{}
	for _, list := range pathsInSquare(3) {
		through[fmt.Sprint(ends(list))] = list
	}
	for length := 0; length <= 4; length++ {
		listsOver(square(3), length, func(corners []impl.Point) {
			want := through[fmt.Sprint(corners)]
			got, ok := impl.PathThrough(corners)
			same(t, fmt.Sprint("PathThrough ", corners), results(got, ok), results(want, want != nil))
		})
	}
}

func TestPromise2LongPathThrough(t *testing.T) {
	got, ok := impl.PathThrough(at(99, 5, 0, 5))
	same(t, "to the left", results(len(got), got[0], got[99], ok), results(100, impl.Point{X: 99, Y: 5}, impl.Point{X: 0, Y: 5}, true))
	got, ok = impl.PathThrough(at(4, 99, 4, 0))
	same(t, "down", results(len(got), got[0], got[1], ok), results(100, impl.Point{X: 4, Y: 99}, impl.Point{X: 4, Y: 98}, true))
	// Five rows of 100 points, each with one point between it and the next row: the last row may have 71.
	rows := at(0, 0, 99, 0, 99, 2, 0, 2, 0, 4, 99, 4, 99, 6, 0, 6, 0, 8, 99, 8, 99, 10)
	for last, fits := range map[int64]bool{31: true, 30: true, 29: true, 28: false, 27: false, 0: false} {
		corners := join(rows, at(last, 10))
		got, ok := impl.PathThrough(corners)
		same(t, fmt.Sprint("rows to ", last), results(len(got) > 0, ok), results(fits, fits))
		if ok {
			same(t, fmt.Sprint("length to ", last), len(got), 505+99-last+1)
			checkPath(t, got)
		}
	}
}

func TestPromise2NoPathThrough(t *testing.T) {
	for _, corners := range [][]impl.Point{
		nil, {}, at(1, 1, 1, 1), at(0, 0, 0, 2, 0, 2), at(0, 0, 0, 0, 0, 2), at(0, 0, 1, 1), at(0, 0, 2, 0, 4, 0), at(0, 0, 4, 0, 2, 0),
		at(0, 0, 0, 2, 2, 2, 2, 0, 0, 0), at(2, 0, 2, 4, 4, 4, 4, 2, 0, 2), at(0, 0, 0, 100), at(0, 0, -1, 0), at(99, 99, 100, 99),
		at(0, 0, 3, 0, 3, 2, 1, 2, 1, 0), at(0, 0, 3, 0, 3, 2, 5, 3), stairs(201), snake(577), square(24),
	} {
		got, ok := impl.PathThrough(corners)
		same(t, fmt.Sprint("PathThrough ", corners), results(got, ok), results(at(), false))
	}
	for _, p := range strangers() {
		for _, corners := range [][]impl.Point{{p}, {p, p}, {{X: 0, Y: 0}, p}, {p, {X: 0, Y: 0}}, {{X: 0, Y: 0}, {X: 5, Y: 0}, p}} {
			got, ok := impl.PathThrough(corners)
			same(t, fmt.Sprint("PathThrough ", corners), results(got, ok), results(at(), false))
		}
	}
}

package tests

import (
	"math/rand"
	"testing"

	"loop.example/g01149/impl"
)

// checkShapes compares the shapes of a net with all shortest paths, and checks
// that each one is what the document tells.
func checkShapes(t *testing.T, g impl.Grid, n impl.Net) {
	t.Helper()
	var want [][]impl.Point
	for _, list := range shapesByRule(n) {
		want = append(want, ends(list))
	}
	shapes, ok := impl.ShapesOf(g, n)
	same(t, brief("shapes of ", n), results(shapes, ok), results(want, true))
	for _, corners := range shapes {
		list, ok := impl.PathThrough(corners)
		same(t, brief("path through ", corners), results(ok, int64(len(list))-1), results(true, far(n.From, n.To)))
		same(t, brief("ends of ", corners), results(corners[0], corners[len(corners)-1]), results(n.From, n.To))
		if len(corners) > 4 {
			t.Errorf("the shape %v has more than two bends", corners)
		}
	}
}

func TestPromise9Shapes(t *testing.T) {
	g := evenGrid(8, 8, 1)
	for _, n := range allNets(8, 8) {
		checkShapes(t, g, n)
	}
}

// TestPromise9ShapesAnywhere has grids of all sizes, whose rooms make no
// difference.
func TestPromise9ShapesAnywhere(t *testing.T) {
	dice := rand.New(rand.NewSource(173))
	for width := int64(1); width <= 8; width++ {
		for height := int64(1); height <= 8; height++ {
			g := diceGrid(dice, width, height, 2)
			for _, n := range diceNets(dice, g, 20) {
				checkShapes(t, g, n)
			}
		}
	}
}

// TestPromise9CountShapes has as many shapes as steps, where a net is not in one
// row or column.
func TestPromise9CountShapes(t *testing.T) {
	g := evenGrid(8, 8, 1)
	for _, n := range allNets(8, 8) {
		want := far(n.From, n.To)
		if n.From.X == n.To.X || n.From.Y == n.To.Y {
			want = 1
		}
		shapes, ok := impl.ShapesOf(g, n)
		same(t, brief("shapes of ", n), results(len(shapes), ok), results(want, true))
	}
}

func TestPromise9ShapesByHand(t *testing.T) {
	for _, row := range []struct {
		n      []impl.Net
		shapes [][]impl.Point
	}{
		{netsOf(3, 2, 3, 2), [][]impl.Point{at(3, 2)}},       // the same cell
		{netsOf(3, 2, 4, 2), [][]impl.Point{at(3, 2, 4, 2)}}, // neighbours
		{netsOf(3, 2, 2, 2), [][]impl.Point{at(3, 2, 2, 2)}},
		{netsOf(3, 2, 3, 3), [][]impl.Point{at(3, 2, 3, 3)}},
		{netsOf(3, 2, 3, 1), [][]impl.Point{at(3, 2, 3, 1)}},
		{netsOf(0, 2, 7, 2), [][]impl.Point{at(0, 2, 7, 2)}}, // in one row
		{netsOf(7, 2, 1, 2), [][]impl.Point{at(7, 2, 1, 2)}},
		{netsOf(5, 0, 5, 6), [][]impl.Point{at(5, 0, 5, 6)}}, // in one column
		{netsOf(5, 7, 5, 0), [][]impl.Point{at(5, 7, 5, 0)}},
		{netsOf(0, 0, 1, 1), [][]impl.Point{at(0, 0, 1, 0, 1, 1), at(0, 0, 0, 1, 1, 1)}}, // at corners of one square
		{netsOf(1, 0, 0, 1), [][]impl.Point{at(1, 0, 0, 0, 0, 1), at(1, 0, 1, 1, 0, 1)}},
		{netsOf(1, 1, 0, 0), [][]impl.Point{at(1, 1, 0, 1, 0, 0), at(1, 1, 1, 0, 0, 0)}},
		{netsOf(0, 1, 1, 0), [][]impl.Point{at(0, 1, 1, 1, 1, 0), at(0, 1, 0, 0, 1, 0)}},
		{netsOf(3, 0, 1, 1), [][]impl.Point{at(3, 0, 2, 0, 2, 1, 1, 1), at(3, 0, 1, 0, 1, 1), at(3, 0, 3, 1, 1, 1)}},
		{netsOf(0, 3, 1, 1), [][]impl.Point{at(0, 3, 1, 3, 1, 1), at(0, 3, 0, 2, 1, 2, 1, 1), at(0, 3, 0, 1, 1, 1)}},
		{netsOf(1, 2, 4, 4), [][]impl.Point{ // to the right and up
			at(1, 2, 2, 2, 2, 4, 4, 4), at(1, 2, 3, 2, 3, 4, 4, 4), at(1, 2, 4, 2, 4, 4),
			at(1, 2, 1, 3, 4, 3, 4, 4), at(1, 2, 1, 4, 4, 4)}},
		{netsOf(4, 2, 1, 4), [][]impl.Point{ // to the left and up
			at(4, 2, 3, 2, 3, 4, 1, 4), at(4, 2, 2, 2, 2, 4, 1, 4), at(4, 2, 1, 2, 1, 4),
			at(4, 2, 4, 3, 1, 3, 1, 4), at(4, 2, 4, 4, 1, 4)}},
		{netsOf(1, 4, 4, 2), [][]impl.Point{ // to the right and down
			at(1, 4, 2, 4, 2, 2, 4, 2), at(1, 4, 3, 4, 3, 2, 4, 2), at(1, 4, 4, 4, 4, 2),
			at(1, 4, 1, 3, 4, 3, 4, 2), at(1, 4, 1, 2, 4, 2)}},
		{netsOf(4, 4, 1, 2), [][]impl.Point{ // to the left and down
			at(4, 4, 3, 4, 3, 2, 1, 2), at(4, 4, 2, 4, 2, 2, 1, 2), at(4, 4, 1, 4, 1, 2),
			at(4, 4, 4, 3, 1, 3, 1, 2), at(4, 4, 4, 2, 1, 2)}},
		{netsOf(7, 0, 0, 7), [][]impl.Point{ // from corner to corner
			at(7, 0, 6, 0, 6, 7, 0, 7), at(7, 0, 5, 0, 5, 7, 0, 7), at(7, 0, 4, 0, 4, 7, 0, 7), at(7, 0, 3, 0, 3, 7, 0, 7),
			at(7, 0, 2, 0, 2, 7, 0, 7), at(7, 0, 1, 0, 1, 7, 0, 7), at(7, 0, 0, 0, 0, 7),
			at(7, 0, 7, 1, 0, 1, 0, 7), at(7, 0, 7, 2, 0, 2, 0, 7), at(7, 0, 7, 3, 0, 3, 0, 7), at(7, 0, 7, 4, 0, 4, 0, 7),
			at(7, 0, 7, 5, 0, 5, 0, 7), at(7, 0, 7, 6, 0, 6, 0, 7), at(7, 0, 7, 7, 0, 7)}},
	} {
		for _, room := range []int64{0, 20} {
			shapes, ok := impl.ShapesOf(evenGrid(8, 8, room), row.n[0])
			same(t, brief("shapes of ", row.n), results(shapes, ok), results(row.shapes, true))
		}
	}
	shapes, ok := impl.ShapesOf(oneCell(), impl.Net{})
	same(t, "shapes in one cell", results(shapes, ok), results([][]impl.Point{at(0, 0)}, true))
}

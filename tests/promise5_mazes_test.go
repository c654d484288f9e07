package tests

import (
	"fmt"
	"math"
	"math/rand"
	"slices"
	"testing"

	"loop.example/g01149/impl"
)

// pointsAround are the points of all cells of a maze, those beside it, and
// those of which each row or column could be taken for another one.
func pointsAround(m impl.Maze) []impl.Point {
	var list []impl.Point
	height, width := int64(len(m.Cells)), int64(0)
	for _, row := range m.Cells {
		width = max(width, int64(len(row)))
	}
	for x := int64(-1); x <= min(width, 13); x++ {
		for y := int64(-1); y <= min(height, 13); y++ {
			list = append(list, impl.Point{X: x, Y: y})
		}
	}
	return slices.Concat(list, strangers(), at(12, 0, 0, 12, 256, 0, 0, 1<<32, 1<<32, 0, -1<<32, 1))
}

func checkMaze(t *testing.T, m impl.Maze) bool {
	t.Helper()
	want := isMaze(m)
	same(t, "valid "+brief(m), impl.ValidMaze(m), want)
	for _, p := range pointsAround(m) {
		same(t, fmt.Sprint("open ", p, " of ", brief(m)), impl.IsOpen(m, p), isOpenCell(m, p))
	}
	return want
}

// smallMazes calls visit with mazes of all sizes up to six cells or so.
func smallMazes(visit func(impl.Maze)) {
	for _, size := range []struct {
		width, height int
		prices        []int64
	}{
		{1, 1, counting(0, 10)}, {2, 1, counting(0, 10)}, {1, 2, counting(0, 10)}, {2, 2, counting(0, 4)},
		{3, 1, counting(0, 4)}, {1, 4, counting(0, 3)}, {3, 2, counting(0, 3)}, {2, 3, counting(0, 3)},
	} {
		mazesOf(size.width, size.height, size.prices, visit)
	}
}

func TestPromise5ValidMaze(t *testing.T) {
	smallMazes(func(m impl.Maze) { checkMaze(t, m) })
	diceMazes(100, 12, 12, func(_ *rand.Rand, m impl.Maze) { checkMaze(t, m) })
	for _, prices := range [][]int64{{-1, 0, 1}, {0, 9, 10}, {math.MinInt64, math.MaxInt64, 1}, {256, 1, -9}} {
		mazesOf(2, 2, prices, func(m impl.Maze) { checkMaze(t, m) })
	}
}

func TestPromise5MazeSizes(t *testing.T) {
	valid := 0
	for width := range 15 {
		for height := range 15 {
			for _, price := range []int64{0, 1, 9, 10, -1} {
				if checkMaze(t, evenMaze(width, height, price)) {
					valid++
				}
			}
		}
	}
	same(t, "valid ones", valid, 12*12*3)
	checkMaze(t, impl.Maze{})
	checkMaze(t, evenMaze(1000, 1, 1))
	checkMaze(t, evenMaze(1, 1000, 1))
}

func TestPromise5MazeRows(t *testing.T) {
	for first := range 14 {
		for second := range 14 {
			for third := range 4 {
				m := impl.Maze{Cells: [][]int64{make([]int64, first), make([]int64, second), make([]int64, third)}}
				if checkMaze(t, m) != (first == second && second == third && first > 0) {
					t.Errorf("%v is a maze or none", m)
				}
			}
		}
	}
	for y := range 12 {
		m := evenMaze(12, 12, 1)
		m.Cells[y] = m.Cells[y][1:]
		same(t, fmt.Sprint("short row ", y), checkMaze(t, m), false)
		m.Cells[y] = nil
		same(t, fmt.Sprint("no cells in row ", y), checkMaze(t, m), false)
		m.Cells[y] = counting(0, 13)
		same(t, fmt.Sprint("long row ", y), checkMaze(t, m), false)
	}
}

func TestPromise5CellPrices(t *testing.T) {
	for y := range int64(12) {
		for x := range int64(12) {
			for _, price := range []int64{0, 1, 8, 9, 10, -1, 11, 48, 256, math.MinInt64, math.MaxInt64} {
				m := evenMaze(12, 12, 1)
				m.Cells[y][x] = price
				same(t, fmt.Sprint("cell ", x, y, price), impl.ValidMaze(m), price >= 0 && price <= 9)
				same(t, fmt.Sprint("open ", x, y, price), impl.IsOpen(m, impl.Point{X: x, Y: y}), price > 0 && price <= 9)
				same(t, fmt.Sprint("open behind ", x, y, price), impl.IsOpen(m, impl.Point{X: (x + 1) % 12, Y: y}), price >= 0 && price <= 9)
			}
		}
	}
}

func TestPromise5OpenByHand(t *testing.T) {
	m := mazeOf("12#/###") // X goes across, and Y over the rows
	for _, row := range []struct {
		x, y int64
		want bool
	}{
		{0, 0, true}, {1, 0, true}, {2, 0, false}, {0, 1, false}, {1, 1, false}, {2, 1, false},
		{3, 0, false}, {0, 2, false}, {-1, 0, false}, {0, -1, false},
	} {
		same(t, fmt.Sprint("open ", row.x, row.y), impl.IsOpen(m, impl.Point{X: row.x, Y: row.y}), row.want)
	}
	same(t, "no cells", impl.IsOpen(impl.Maze{}, impl.Point{}), false)
	same(t, "not valid", impl.IsOpen(mazeOf("1/11"), impl.Point{}), false)
	same(t, "long column", impl.IsOpen(mazeOf("1/1/1"), impl.Point{Y: 2}), true)
	same(t, "long row", impl.IsOpen(mazeOf("111"), impl.Point{X: 2}), true)
}

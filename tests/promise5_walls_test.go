package tests

import (
	"fmt"
	"math/rand"
	"slices"
	"testing"

	"loop.example/g01149/impl"
)

// checkReached checks the reached cells, and the walls around them.
func checkReached(t *testing.T, m impl.Maze, from impl.Point) (cells, walls []impl.Point) {
	t.Helper()
	open := isOpenCell(m, from)
	if open {
		cells = pointsOf(flood(openBits(m), from))
		walls = slices.DeleteFunc(cellsIn(m), func(p impl.Point) bool {
			return isOpenCell(m, p) || !slices.ContainsFunc(cells, func(q impl.Point) bool { return areBeside(p, q) })
		})
	}
	what := fmt.Sprint(" from ", from, " in ", plainMaze(m))
	got, ok := impl.ReachedCells(m, from)
	same(t, "reached"+what, results(got, ok), results(cells, open))
	got, ok = impl.WallAround(m, from)
	same(t, "wall"+what, results(got, ok), results(walls, open))
	return cells, walls
}

func TestPromise5ReachedCells(t *testing.T) {
	inside, walled := 0, 0
	check := func(m impl.Maze) {
		for _, from := range pointsAround(m) {
			cells, walls := checkReached(t, m, from)
			if len(cells) > 0 && len(cells) < len(openCells(m)) {
				inside++
			}
			if len(walls) > 3 {
				walled++
			}
			for _, to := range openCells(m)[:min(3, len(openCells(m)))] {
				_, _, found := impl.CheapestWay(m, from, to, 0)
				same(t, fmt.Sprint("way from ", from, " to ", to, " in ", plainMaze(m)), found, slices.Contains(cells, to))
			}
		}
	}
	for _, size := range [][2]int{{1, 1}, {4, 1}, {1, 5}, {2, 3}, {3, 2}, {3, 3}} {
		mazesOf(size[0], size[1], counting(0, 2), check)
	}
	diceMazes(60, 12, 12, func(_ *rand.Rand, m impl.Maze) { check(m) })
	if inside < 100 || walled < 100 {
		t.Errorf("too few do not reach all open cells, %d, or have several walls around, %d", inside, walled)
	}
}

func TestPromise5ReachedByHand(t *testing.T) {
	for _, row := range []struct {
		maze         string
		from         impl.Point
		cells, walls []impl.Point
	}{
		{"1", impl.Point{}, at(0, 0), nil},
		{"9", impl.Point{}, at(0, 0), nil},
		{"11#1", impl.Point{}, at(0, 0, 1, 0), at(2, 0)},
		{"11#1", impl.Point{X: 3}, at(3, 0), at(2, 0)},
		{"1/#/1/1", impl.Point{Y: 2}, at(0, 2, 0, 3), at(0, 1)},
		{"11/11", impl.Point{X: 1}, at(0, 0, 0, 1, 1, 0, 1, 1), nil}, // X first, then Y
		{"1#/#1", impl.Point{}, at(0, 0), at(0, 1, 1, 0)},            // not across a corner
		{"###/#1#/###", impl.Point{X: 1, Y: 1}, at(1, 1), at(0, 1, 1, 0, 1, 2, 2, 1)},
		{"111/1#1/111", impl.Point{X: 2}, at(0, 0, 0, 1, 0, 2, 1, 0, 1, 2, 2, 0, 2, 1, 2, 2), at(1, 1)}, // a wall beside four cells
		{"#1#/###/###", impl.Point{X: 1}, at(1, 0), at(0, 0, 1, 1, 2, 0)},                               // at the edge of the maze
		{"###/1##/###", impl.Point{Y: 1}, at(0, 1), at(0, 0, 0, 2, 1, 1)},
		{"###/###/##1", impl.Point{X: 2, Y: 2}, at(2, 2), at(1, 2, 2, 1)},
		{"1#1#1", impl.Point{X: 2}, at(2, 0), at(1, 0, 3, 0)},
		{"1###1", impl.Point{}, at(0, 0), at(1, 0)}, // walls behind walls are not around
	} {
		m := mazeOf(row.maze)
		cells, ok := impl.ReachedCells(m, row.from)
		same(t, "reached in "+row.maze, results(cells, ok), results(row.cells, true))
		walls, ok := impl.WallAround(m, row.from)
		same(t, "walls in "+row.maze, results(walls, ok), results(row.walls, true))
	}
	all, ok := impl.ReachedCells(evenMaze(12, 12, 3), impl.Point{X: 5, Y: 7})
	same(t, "all reached", results(all, ok), results(square(12), true))
	walls, ok := impl.WallAround(evenMaze(12, 12, 3), impl.Point{X: 5, Y: 7})
	same(t, "no walls", results(walls, ok), results(at(), true))
	for _, p := range pointsAround(evenMaze(12, 12, 0)) {
		checkReached(t, evenMaze(12, 12, 0), p)
	}
}

// checkBlocks compares blocks with all sets of at most so many cells.
func checkBlocks(t *testing.T, m impl.Maze, from, to impl.Point, most int) []impl.Point {
	t.Helper()
	found := isOpenCell(m, from) && isOpenCell(m, to) && from != to && !areBeside(from, to)
	var want []impl.Point
	if found {
		var tried bool
		want, tried = fewestOfSets(m, from, to, most)
		if !tried {
			checkMoreBlocks(t, m, from, to, most)
			return nil
		}
	}
	what := fmt.Sprint(" from ", from, " to ", to, " in ", plainMaze(m))
	blocks, ok := impl.FewestBlocks(m, from, to)
	same(t, "blocks"+what, results(blocks, ok), results(want, found))
	count, ok := impl.MostApart(m, from, to)
	same(t, "apart"+what, results(count, ok), results(len(want), found))
	return blocks
}

// checkMoreBlocks checks blocks that are known to be more than so many: that
// they are open cells that block, and as many as the ways apart. It does not
// tell which ones of several sets they are.
func checkMoreBlocks(t *testing.T, m impl.Maze, from, to impl.Point, most int) {
	t.Helper()
	what := fmt.Sprint(" from ", from, " to ", to, " in ", plainMaze(m))
	blocks, ok := impl.FewestBlocks(m, from, to)
	open := openBits(m)
	for _, p := range blocks {
		if p == from || p == to || !open.has(p) {
			t.Errorf("blocks%s: %v", what, blocks)
		}
		open.drop(p)
	}
	reached := flood(open, from)
	if !ok || len(blocks) <= most || len(blocks) > 4 || reached.has(to) {
		t.Errorf("blocks%s: %v", what, blocks)
	}
	count, ok := impl.MostApart(m, from, to)
	same(t, "apart"+what, results(count, ok), results(len(blocks), true))
}

func TestPromise5FewestBlocks(t *testing.T) {
	counts := map[int]int{}
	check := func(m impl.Maze, from, to impl.Point) { counts[len(checkBlocks(t, m, from, to, 4))]++ }
	for _, size := range [][2]int{{1, 1}, {5, 1}, {1, 6}, {2, 3}, {3, 2}, {4, 2}, {3, 3}} {
		mazesOf(size[0], size[1], counting(0, 2), func(m impl.Maze) {
			allPairs(m, func(from, to impl.Point) { check(m, from, to) })
		})
	}
	diceMazes(300, 5, 5, func(dice *rand.Rand, m impl.Maze) {
		dicePairs(dice, m, 4, func(from, to impl.Point) { check(m, from, to) })
	})
	diceMazes(200, 7, 7, func(dice *rand.Rand, m impl.Maze) {
		dicePairs(dice, m, 2, func(from, to impl.Point) { check(m, from, to) })
	})
	dice := rand.New(rand.NewSource(47))
	for range 40 {
		m := diceMaze(dice, 6, 6, 2, 2)
		dicePairs(dice, m, 3, func(from, to impl.Point) { check(m, from, to) })
	}
	if counts[0] < 100 || counts[1] < 100 || counts[2] < 100 || counts[3] < 30 || counts[4] < 5 {
		t.Errorf("too few have some numbers of blocks: %v", counts)
	}
}

func TestPromise5FewestBlocksWide(t *testing.T) {
	dice := rand.New(rand.NewSource(53))
	counts := map[int]int{}
	for range 250 {
		m := diceMaze(dice, 8+dice.Intn(5), 8+dice.Intn(5), 1+dice.Intn(4), 9)
		dicePairs(dice, m, 2, func(from, to impl.Point) { counts[len(checkBlocks(t, m, from, to, 2))]++ })
	}
	for range 8 {
		m := diceMaze(dice, 12, 12, 3, 9)
		dicePairs(dice, m, 2, func(from, to impl.Point) { counts[len(checkBlocks(t, m, from, to, 3))]++ })
	}
	if counts[1] < 20 || counts[2] < 50 || counts[3] < 2 {
		t.Errorf("too few have some numbers of blocks: %v", counts)
	}
}

func TestPromise5BlocksByHand(t *testing.T) {
	for _, row := range []struct {
		maze     string
		from, to impl.Point
		want     []impl.Point
		ok       bool
	}{
		{"111/1#1/111", impl.Point{}, impl.Point{X: 2, Y: 2}, at(0, 1, 1, 0), true},
		{"111/1#1/111", impl.Point{X: 2, Y: 2}, impl.Point{}, at(1, 2, 2, 1), true}, // near to the first point
		{"11#1", impl.Point{}, impl.Point{X: 3}, nil, true},                         // no way joins them
		{"1#/#1", impl.Point{}, impl.Point{X: 1, Y: 1}, nil, true},
		{"111", impl.Point{}, impl.Point{X: 2}, at(1, 0), true},
		{"11111", impl.Point{}, impl.Point{X: 4}, at(1, 0), true}, // several sets with as few cells
		{"11111", impl.Point{X: 4}, impl.Point{}, at(3, 0), true},
		{"1/1/1/1", impl.Point{}, impl.Point{Y: 3}, at(0, 1), true},
		{"1/1/1/1", impl.Point{Y: 3}, impl.Point{}, at(0, 2), true},
		{"111#111/1111111/111#111", impl.Point{Y: 1}, impl.Point{X: 6, Y: 1}, at(2, 1), true}, // behind a part with three ways
		{"111#111/1111111/111#111", impl.Point{X: 6, Y: 1}, impl.Point{Y: 1}, at(4, 1), true},
		{"11/11", impl.Point{}, impl.Point{X: 1, Y: 1}, at(0, 1, 1, 0), true},
		{"111/111/111", impl.Point{X: 1}, impl.Point{X: 1, Y: 2}, at(0, 0, 1, 1, 2, 0), true},
		{"111/111/111", impl.Point{X: 1, Y: 2}, impl.Point{X: 1}, at(0, 2, 1, 1, 2, 2), true},
		{"19/99", impl.Point{}, impl.Point{X: 1, Y: 1}, at(0, 1, 1, 0), true}, // prices do not matter
		{"1", impl.Point{}, impl.Point{}, nil, false},                         // the same cell
		{"111", impl.Point{X: 1}, impl.Point{X: 1}, nil, false},
		{"11", impl.Point{}, impl.Point{X: 1}, nil, false}, // neighbours
		{"11", impl.Point{X: 1}, impl.Point{}, nil, false},
		{"1/1", impl.Point{}, impl.Point{Y: 1}, nil, false},
		{"1/1", impl.Point{Y: 1}, impl.Point{}, nil, false},
		{"11/11", impl.Point{}, impl.Point{Y: 1}, nil, false}, // also if another way joins them
		{"11#", impl.Point{}, impl.Point{X: 2}, nil, false},   // a wall
		{"#11", impl.Point{}, impl.Point{X: 2}, nil, false},
		{"111", impl.Point{}, impl.Point{X: 3}, nil, false}, // out of the maze
		{"111", impl.Point{Y: -1}, impl.Point{X: 2}, nil, false},
		{"111/11", impl.Point{}, impl.Point{X: 2}, nil, false}, // no maze
		{"##/##", impl.Point{}, impl.Point{X: 1, Y: 1}, nil, false},
	} {
		m := mazeOf(row.maze)
		what := fmt.Sprint(" from ", row.from, " to ", row.to, " in ", row.maze)
		blocks, ok := impl.FewestBlocks(m, row.from, row.to)
		same(t, "blocks"+what, results(blocks, ok), results(row.want, row.ok))
		count, ok := impl.MostApart(m, row.from, row.to)
		same(t, "apart"+what, results(count, ok), results(len(row.want), row.ok))
	}
	open := evenMaze(12, 12, 1)
	for _, row := range []struct {
		from, to impl.Point
		want     []impl.Point
	}{
		{impl.Point{}, impl.Point{X: 11, Y: 11}, at(0, 1, 1, 0)},
		{impl.Point{X: 11, Y: 11}, impl.Point{}, at(10, 11, 11, 10)},
		{impl.Point{X: 5}, impl.Point{X: 7, Y: 11}, at(4, 0, 5, 1, 6, 0)},
		{impl.Point{X: 5, Y: 5}, impl.Point{X: 7, Y: 6}, at(4, 5, 5, 4, 5, 6, 6, 5)},
		{impl.Point{X: 5, Y: 5}, impl.Point{X: 11, Y: 11}, at(10, 11, 11, 10)}, // fewer at the other end
	} {
		blocks, ok := impl.FewestBlocks(open, row.from, row.to)
		same(t, fmt.Sprint("blocks of open cells from ", row.from), results(blocks, ok), results(row.want, true))
		count, ok := impl.MostApart(open, row.from, row.to)
		same(t, fmt.Sprint("apart in open cells from ", row.from), results(count, ok), results(len(row.want), true))
	}
}

func TestPromise5BlocksOutside(t *testing.T) {
	m := mazeOf("111/1#1/111")
	for _, p := range pointsAround(m) {
		for _, q := range pointsAround(m) {
			checkBlocks(t, m, p, q, 4)
		}
	}
}

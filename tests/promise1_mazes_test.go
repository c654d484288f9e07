package tests

import (
	"fmt"
	"math"
	"math/rand"
	"slices"
	"strings"
	"testing"

	"loop.example/g01149/impl"
)

func strangeMazes() []impl.Maze {
	list := []impl.Maze{
		{}, {Cells: [][]int64{}}, {Cells: [][]int64{nil}}, {Cells: [][]int64{{}, {}}}, {Cells: [][]int64{{1}, nil}}, {Cells: [][]int64{nil, {1}}},
		mazeOf("1"), mazeOf("#"), mazeOf("1/11"), mazeOf("11/1"), mazeOf("1#1"), mazeOf("1/#/1"), mazeOf("111/1#1/111"), mazeOf("19/11"), mazeOf("99/99"),
		evenMaze(12, 12, 0), evenMaze(12, 12, 1), evenMaze(12, 12, 9), evenMaze(12, 12, 10), evenMaze(12, 12, -1), evenMaze(13, 12, 1), evenMaze(12, 13, 1),
		evenMaze(12, 1, 2), evenMaze(1, 12, 2), evenMaze(13, 1, 2), evenMaze(1, 13, 2), evenMaze(10000, 1, 1), evenMaze(1, 500, 1), evenMaze(0, 500, 1),
	}
	for _, price := range []int64{-1, 10, math.MinInt64, math.MaxInt64} {
		list = append(list, impl.Maze{Cells: [][]int64{{1, 1}, {1, price}}})
	}
	dice := rand.New(rand.NewSource(59))
	for range 6 {
		list = append(list, diceMaze(dice, 12, 12, 1+dice.Intn(4), 9))
	}
	return list
}

func strangeSteps() []string {
	return []string{"", "d", "l", "r", "u", "x", "rl", "ud", "rluddlur", "rru", "uur", "R", "\x00", "\xff", "r\xff", "é", strings.Repeat("rl", 500),
		strings.Repeat("ud", 500) + "u", strings.Repeat("r", 1000000), strings.Repeat("rl", 500000), strings.Repeat("\xff", 1000000)}
}

func callsOfMaze(m impl.Maze) []call {
	cells, changed := guardLists(m.Cells, 46)
	g := impl.Maze{Cells: cells}
	maze := brief(m)
	var calls []call
	add := func(name string, reports bool, run func() []any) {
		calls = append(calls, call{name + " of " + maze, reports, run, changed})
	}
	add("ValidMaze", true, func() []any { return results(impl.ValidMaze(g)) })
	add("MazeText", false, func() []any { a, ok := impl.MazeText(g); return results(a, ok) })
	points := append(strangers(), at(0, 0, 1, 0, 0, 1, 1, 1, 2, 2, 11, 11, 0, 12, 12, 0, 5, 5)...)
	several := strangeSteps()
	bends := []int64{0, 1, -1, impl.MaxValue, impl.MaxValue + 1, math.MinInt64, math.MaxInt64}
	for i, p := range points {
		from := fmt.Sprint(" from ", p)
		add("IsOpen"+from, true, func() []any { return results(impl.IsOpen(g, p)) })
		add("ReachedCells"+from, false, func() []any { a, ok := impl.ReachedCells(g, p); return results(a, ok) })
		add("WallAround"+from, false, func() []any { a, ok := impl.WallAround(g, p); return results(a, ok) })
		for j, steps := range several {
			bend := bends[(i+j)%len(bends)]
			by := fmt.Sprintf(" by %.20q %d", steps, bend)
			add("EndOf"+from+by, false, func() []any { a, ok := impl.EndOf(g, p, steps); return results(a, ok) })
			add("PriceOf"+from+by, false, func() []any { a, ok := impl.PriceOf(g, p, steps, bend); return results(a, ok) })
			add("CrowdCells"+from+by, false, func() []any { a, ok := impl.CrowdCells(g, p, steps); return results(a, ok) })
		}
		for j, q := range points {
			bend := bends[(i+j)%len(bends)]
			to := fmt.Sprint(from, " to ", q, " bend ", bend)
			add("CheapestWay"+to, false, func() []any { a, b, ok := impl.CheapestWay(g, p, q, bend); return results(a, b, ok) })
			add("CountCheapest"+to, false, func() []any { a, ok := impl.CountCheapest(g, p, q, bend); return results(a, ok) })
			add("FewestBlocks"+to, false, func() []any { a, ok := impl.FewestBlocks(g, p, q); return results(a, ok) })
			add("MostApart"+to, false, func() []any { a, ok := impl.MostApart(g, p, q); return results(a, ok) })
		}
	}
	return calls
}

func mazeTextCalls() []call {
	var calls []call
	texts := []string{"#", "9", "1/1", "111/1#1/111", "1/", "11/1", strings.Repeat("/", 1000000), strings.Repeat("1/", 1000000), strings.Repeat("#", 1000000),
		strings.Repeat("1/", 11) + strings.Repeat("1", 1000000), strings.Repeat("111111111111/", 12) + "1", "1/" + strings.Repeat("\xff", 1000000)}
	for _, s := range append(strangeTexts(), texts...) {
		run := func() []any { a, ok := impl.ReadMaze(s); return results(a, ok) }
		calls = append(calls, call{fmt.Sprintf("ReadMaze(%.60q)", s), false, run, unchangeable})
	}
	return calls
}

func TestPromise1Mazes(t *testing.T) {
	calls := mazeTextCalls()
	for _, m := range strangeMazes() {
		calls = append(calls, callsOfMaze(m)...)
	}
	checkCalls(t, calls)
}

// TestPromise1MazesOneRow has the same memory for all rows.
func TestPromise1MazesOneRow(t *testing.T) {
	row := []int64{1, 2, 9}
	m := impl.Maze{Cells: slices.Repeat([][]int64{row}, 3)}
	more, ok := impl.CrowdCells(m, impl.Point{}, "rr")
	same(t, "crowd", results(more, ok), results(mazeOf("239/129/129"), true))
	more.Cells[0][0] = 7
	same(t, "rows", more, mazeOf("739/129/129"))
	steps, price, ok := impl.CheapestWay(m, impl.Point{}, impl.Point{X: 2, Y: 2}, 0)
	same(t, "way", results(steps, price, ok), results("uurr", 13, true))
	text, ok := impl.MazeText(m)
	same(t, "text", results(text, ok), results("129/129/129", true))
	same(t, "row", row, []int64{1, 2, 9})
}

// TestPromise1MazesSeveral calls functions from several goroutines.
func TestPromise1MazesSeveral(t *testing.T) {
	m := mazeOf("111/1#1/111")
	all := make(chan string)
	for range 8 {
		go func() {
			steps, price, _ := impl.CheapestWay(m, impl.Point{}, impl.Point{X: 2, Y: 2}, 1)
			blocks, _ := impl.FewestBlocks(m, impl.Point{}, impl.Point{X: 2, Y: 2})
			more, _ := impl.CrowdCells(m, impl.Point{}, "rr")
			all <- fmt.Sprint(steps, price, blocks, more)
		}()
	}
	for range 8 {
		same(t, "several", <-all, "rruu5 [{0 1} {1 0}] {[[2 2 2] [1 0 1] [1 1 1]]}")
	}
}

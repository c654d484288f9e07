package tests

import (
	"fmt"
	"math"
	"math/rand"
	"slices"
	"strings"
	"testing"

	"loop.example/g01149/impl"
)

// plainMaze writes the text of a maze, and brackets for none.
func plainMaze(m impl.Maze) string {
	if !isMaze(m) {
		return brief(m)
	}
	rows := []string{}
	for _, row := range m.Cells {
		text := ""
		for _, price := range row {
			text += fmt.Sprint(price)
		}
		rows = append(rows, strings.ReplaceAll(text, "0", "#"))
	}
	return strings.Join(rows, "/")
}

func checkMazeText(t *testing.T, m impl.Maze) {
	t.Helper()
	text, ok := impl.MazeText(m)
	same(t, "text of "+brief(m), results(text, ok), results(plainMaze(m), true))
	read, ok := impl.ReadMaze(text)
	same(t, "read "+text, results(read, ok), results(m, true))
}

func TestPromise5MazeText(t *testing.T) {
	check := func(m impl.Maze) { checkMazeText(t, m) }
	smallMazes(check)
	diceMazes(500, 12, 12, func(_ *rand.Rand, m impl.Maze) { check(m) })
	for side := 1; side <= 12; side++ {
		for _, price := range []int64{0, 1, 9} {
			check(evenMaze(side, 1, price))
			check(evenMaze(1, side, price))
			check(evenMaze(side, 12, price))
			check(evenMaze(12, side, price))
		}
	}
}

func TestPromise5MazeTextByHand(t *testing.T) {
	for _, row := range []struct {
		text  string
		cells [][]int64
	}{
		{"#", [][]int64{{0}}},
		{"1", [][]int64{{1}}},
		{"9", [][]int64{{9}}},
		{"1#2", [][]int64{{1, 0, 2}}},
		{"1/#/2", [][]int64{{1}, {0}, {2}}},
		{"123/456", [][]int64{{1, 2, 3}, {4, 5, 6}}}, // Y 0 is the first row
		{"111/1#1/111", [][]int64{{1, 1, 1}, {1, 0, 1}, {1, 1, 1}}},
		{"##/##", [][]int64{{0, 0}, {0, 0}}},
		{"#123456789##", [][]int64{{0, 1, 2, 3, 4, 5, 6, 7, 8, 9, 0, 0}}},
		{"1/1/1/1/1/1/1/1/1/1/1/1", slices.Repeat([][]int64{{1}}, 12)},
	} {
		text, ok := impl.MazeText(impl.Maze{Cells: row.cells})
		same(t, "text", results(text, ok), results(row.text, true))
		m, ok := impl.ReadMaze(row.text)
		same(t, "read "+row.text, results(m, ok), results(impl.Maze{Cells: row.cells}, true))
	}
}

func TestPromise5NoMazeText(t *testing.T) {
	for _, cells := range [][][]int64{
		nil, {}, {nil}, {{}}, {{}, {}}, {{1}, {}}, {{1}, {1, 1}}, {{1, 1}, {1}}, {{10}}, {{-1}}, {{1, 1}, {1, 10}}, {{math.MinInt64}}, {{math.MaxInt64}},
		slices.Repeat([][]int64{{1}}, 13), {counting(0, 13)}, {make([]int64, 13)},
	} {
		text, ok := impl.MazeText(impl.Maze{Cells: cells})
		same(t, "text of "+brief(cells), results(text, ok), results("", false))
	}
}

// isMazeText tells what a text of a maze is by its rows.
func isMazeText(s string) bool {
	rows := strings.Split(s, "/")
	for _, row := range rows {
		if strings.Trim(row, "#123456789") != "" || len(row) < 1 || len(row) > 12 || len(row) != len(rows[0]) {
			return false
		}
	}
	return len(rows) <= 12
}

func checkReadMaze(t *testing.T, s string) bool {
	t.Helper()
	got, ok := impl.ReadMaze(s)
	if !isMazeText(s) {
		same(t, fmt.Sprintf("read %.200q", s), results(got, ok), results(impl.Maze{}, false))
		return ok
	}
	same(t, fmt.Sprintf("read %.200q", s), results(got, ok), results(mazeOf(s), true))
	return ok
}

// TestPromise5ChangedMazeTexts tries all texts that differ from some in a byte.
func TestPromise5ChangedMazeTexts(t *testing.T) {
	read := 0
	rows := strings.TrimSuffix(strings.Repeat("1#2/", 12), "/")
	for _, s := range []string{"", "1", "#", "12", "1/2", "1#1", "111/1#1/111", "19/11", "111111111111", "1/2/3/4/5/6/7/8/9/#/1/2", rows} {
		for i := range len(s) + 1 {
			for b := range 256 {
				texts := []string{s[:i] + string([]byte{byte(b)}) + s[i:]}
				if i < len(s) {
					texts = append(texts, s[:i]+string([]byte{byte(b)})+s[i+1:], s[:i]+s[i+1:])
				}
				for _, text := range texts {
					if checkReadMaze(t, text) {
						read++
					}
				}
			}
		}
	}
	if read < 500 {
		t.Errorf("only %d texts are those of mazes", read)
	}
}

func TestPromise5ReadMaze(t *testing.T) {
	textsOver("01#9/", 6, func(s string) { checkReadMaze(t, s) })
	for _, s := range []string{
		"", "/", "//", "0", "1/", "/1", "1//1", "11/1", "1/11", "a", "1a", "none", "1 1", " 1", "1 ", "1\n", "1/1\n", "1/1/", "1\\1", "1|1", "-1", "+1", "1.1", "1,1",
		"10", "é", "\xff", "\x00", "٣", "##\x23", "1/1/1/1/1/1/1/1/1/1/1/1/1", "1111111111111", "#############", strings.Repeat("1", 256), strings.Repeat("1/", 12),
	} {
		if checkReadMaze(t, s) != (s == "##\x23") {
			t.Errorf("%q is read, or not", s)
		}
	}
	for width := range 15 {
		for height := range 15 {
			row := strings.Repeat("7", width)
			s := strings.TrimSuffix(strings.Repeat(row+"/", height), "/")
			ok := checkReadMaze(t, s)
			if height > 0 && width > 0 && ok != (width <= 12 && height <= 12) {
				t.Errorf("%d columns and %d rows are read, or not", width, height)
			}
		}
	}
}

// crowded returns the maze in which the cells of a way are dearer.
func crowded(m impl.Maze, way []impl.Point) impl.Maze {
	more := impl.Maze{}
	for _, row := range m.Cells {
		more.Cells = append(more.Cells, slices.Clone(row))
	}
	for _, p := range cellsIn(m) {
		if slices.Contains(way, p) && more.Cells[p.Y][p.X] != 9 {
			more.Cells[p.Y][p.X]++
		}
	}
	return more
}

func checkCrowd(t *testing.T, m impl.Maze, from impl.Point, steps string) bool {
	t.Helper()
	want := impl.Maze{}
	way, isWay := cellsOnWay(m, from, steps)
	if isWay {
		want = crowded(m, way)
	}
	got, ok := impl.CrowdCells(m, from, steps)
	same(t, fmt.Sprintf("crowd %.100q from %v in %s", steps, from, plainMaze(m)), results(got, ok), results(want, isWay))
	return isWay
}

func TestPromise5CrowdCells(t *testing.T) {
	isWay := 0
	for _, m := range []impl.Maze{mazeOf("1"), mazeOf("9"), mazeOf("#"), mazeOf("18#"), mazeOf("8/9/#"), mazeOf("19/28"), mazeOf("111/1#9/189"), mazeOf("1/11"), mazeOf("12/34/56")} {
		for _, from := range pointsAround(m) {
			textsOver("dlru", 5, func(steps string) {
				if checkCrowd(t, m, from, steps) {
					isWay++
				}
			})
		}
	}
	if isWay < 1500 {
		t.Errorf("only %d are ways", isWay)
	}
	diceMazes(300, 12, 12, func(dice *rand.Rand, m impl.Maze) {
		dicePairs(dice, m, 5, func(from, to impl.Point) {
			steps, _, _ := impl.CheapestWay(m, from, to, dice.Int63n(3))
			checkCrowd(t, m, from, steps)
			checkCrowd(t, m, from, steps+"rlud")
		})
	})
}

func TestPromise5CrowdCellsByHand(t *testing.T) {
	for _, row := range []struct {
		maze, steps string
		from        impl.Point
		want        string
		ok          bool
	}{
		{"19/11", "rl", impl.Point{}, "29/11", true}, // 9 is the greatest price, and a cell counts once
		{"11/11", "", impl.Point{}, "21/11", true},   // the first cell alone
		{"91/11", "", impl.Point{}, "91/11", true},
		{"81/11", "", impl.Point{}, "91/11", true},
		{"88/88", "rlrl", impl.Point{}, "99/88", true},
		{"11/11", "ruld", impl.Point{}, "22/22", true}, // back to the first cell
		{"111/1#1/111", "rruu", impl.Point{}, "222/1#2/112", true},
		{"123/456", "rr", impl.Point{Y: 1}, "123/567", true},
		{"123/456", "d", impl.Point{X: 2, Y: 1}, "124/457", true},
		{"1#", "r", impl.Point{}, "", false},
		{"11", "rr", impl.Point{}, "", false},
		{"11", "x", impl.Point{}, "", false},
		{"#1", "", impl.Point{}, "", false},
		{"#1", "r", impl.Point{}, "", false},
		{"11", "", impl.Point{X: 2}, "", false},
		{"11/1", "", impl.Point{}, "", false},
	} {
		m, ok := impl.CrowdCells(mazeOf(row.maze), row.from, row.steps)
		want := impl.Maze{}
		if row.ok {
			want = mazeOf(row.want)
		}
		same(t, "crowd "+row.steps+" in "+row.maze, results(m, ok), results(want, row.ok))
	}
	pairs := strings.Repeat("rl", 500)
	for _, steps := range []string{pairs, pairs + "r", strings.Repeat(pairs, 100)} {
		m, ok := impl.CrowdCells(mazeOf("171"), impl.Point{}, steps)
		same(t, fmt.Sprint("crowd ", len(steps), " steps"), results(m, ok), results(mazeOf("281"), true))
	}
}

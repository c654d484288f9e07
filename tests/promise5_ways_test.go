package tests

import (
	"fmt"
	"math"
	"math/rand"
	"strings"
	"testing"

	"loop.example/g01149/impl"
)

// checkSteps checks where steps lead and what they cost, and returns whether
// they are a way.
func checkSteps(t *testing.T, m impl.Maze, from impl.Point, steps string, bend int64) bool {
	t.Helper()
	what := fmt.Sprintf("%.100q from %v, bend %d, in %s", steps, from, bend, brief(m))
	cells, isWay := cellsOnWay(m, from, steps)
	end, price := impl.Point{}, int64(0)
	if isWay {
		end = cells[len(cells)-1]
	}
	hasPrice := isWay && bend >= 0 && bend <= 1000000000 && len(steps) <= 1000
	if hasPrice {
		price = priceOfWay(m, cells, steps, bend)
	}
	p, ok := impl.EndOf(m, from, steps)
	same(t, "end of "+what, results(p, ok), results(end, isWay))
	n, ok := impl.PriceOf(m, from, steps, bend)
	same(t, "price of "+what, results(n, ok), results(price, hasPrice))
	return isWay
}

func TestPromise5Steps(t *testing.T) {
	mazes := []impl.Maze{mazeOf("1"), mazeOf("#"), mazeOf("12#"), mazeOf("1/2/#"), mazeOf("19/21"), mazeOf("111/1#1/111"), mazeOf("345/6#7/891"), mazeOf("1/11"), mazeOf("12/34/56")}
	isWay := 0
	for _, m := range mazes {
		for _, from := range pointsAround(m) {
			textsOver("dlru", 4, func(steps string) {
				for _, bend := range []int64{0, 3} {
					if checkSteps(t, m, from, steps, bend) {
						isWay++
					}
				}
			})
		}
	}
	if isWay < 1500 {
		t.Errorf("only %d are ways", isWay)
	}
}

func TestPromise5StepLetters(t *testing.T) {
	m := mazeOf("111/121/111")
	center := impl.Point{X: 1, Y: 1}
	for b := range 256 {
		letter := string([]byte{byte(b)})
		want := strings.Contains("dlru", letter)
		for _, steps := range []string{letter, letter + "r", "r" + letter, "rl" + letter, "rl" + letter + "lr"} {
			_, ok := impl.EndOf(m, center, letter)
			same(t, fmt.Sprintf("step %q", letter), ok, want)
			checkSteps(t, m, center, steps, 1)
		}
	}
	for _, steps := range []string{"D", "U", " ", "r ", " r", "r\n", "r,u", "é", "rü", "\xff", "\x00", "none", "0", "RU"} {
		same(t, fmt.Sprintf("steps %q", steps), checkSteps(t, m, center, steps, 0), false)
	}
}

func TestPromise5StepsByHand(t *testing.T) {
	m := mazeOf("123/4#5/678")
	for _, row := range []struct {
		from, end   impl.Point
		steps       string
		bend, price int64
		ok          bool
	}{
		{impl.Point{}, impl.Point{}, "", 7, 0, true}, // no step has no price
		{impl.Point{}, impl.Point{X: 1}, "r", 7, 2, true},
		{impl.Point{}, impl.Point{Y: 1}, "u", 7, 4, true}, // the first step is no bend
		{impl.Point{}, impl.Point{X: 2}, "rr", 7, 5, true},
		{impl.Point{}, impl.Point{X: 2, Y: 1}, "rru", 7, 17, true},
		{impl.Point{}, impl.Point{}, "rl", 7, 10, true}, // back is a bend, too
		{impl.Point{}, impl.Point{}, "rlud", 0, 8, true},
		{impl.Point{}, impl.Point{}, "rlud", 1, 11, true},
		{impl.Point{X: 2, Y: 2}, impl.Point{X: 2}, "dd", 7, 8, true},
		{impl.Point{X: 2, Y: 2}, impl.Point{Y: 2}, "ll", 7, 13, true},
		{impl.Point{X: 2, Y: 2}, impl.Point{Y: 2}, "ll", 1000000000, 13, true},
		{impl.Point{X: 2, Y: 2}, impl.Point{Y: 1}, "lld", 1000000000, 1000000017, true},
		{impl.Point{}, impl.Point{}, "ru", 0, 0, false}, // into a wall
		{impl.Point{}, impl.Point{}, "d", 0, 0, false},  // out of the maze
		{impl.Point{}, impl.Point{}, "l", 0, 0, false},
		{impl.Point{}, impl.Point{}, "rrr", 0, 0, false},
		{impl.Point{}, impl.Point{}, "uuu", 0, 0, false},
		{impl.Point{}, impl.Point{}, "rrrl", 0, 0, false}, // and back
		{impl.Point{X: 1, Y: 1}, impl.Point{}, "", 0, 0, false},
		{impl.Point{X: 1, Y: 1}, impl.Point{}, "r", 0, 0, false},
		{impl.Point{X: 3}, impl.Point{}, "l", 0, 0, false},
	} {
		what := fmt.Sprint(row.steps, " from ", row.from)
		end, ok := impl.EndOf(m, row.from, row.steps)
		same(t, "end of "+what, results(end, ok), results(row.end, row.ok))
		price, ok := impl.PriceOf(m, row.from, row.steps, row.bend)
		same(t, "price of "+what, results(price, ok), results(row.price, row.ok))
		checkSteps(t, m, row.from, row.steps, row.bend)
	}
}

// TestPromise5ManySteps has as many steps as can have a price, and one more.
// The document sets no limit to the steps that lead somewhere.
func TestPromise5ManySteps(t *testing.T) {
	m := mazeOf("19")
	pairs := strings.Repeat("rl", 500)
	for _, row := range []struct {
		steps       string
		bend, price int64
		ok          bool
	}{
		{pairs[:999], 0, 500*9 + 499, true},
		{pairs, 0, 500 * 10, true},
		{pairs, 1, 500*10 + 999, true},
		{pairs, 1000000000, 500*10 + 999*1000000000, true},
		{pairs + "r", 0, 0, false},
		{pairs + pairs, 0, 0, false},
		{pairs[:999] + "x", 0, 0, false},
		{pairs[:999] + "r", 0, 0, false},
	} {
		price, ok := impl.PriceOf(m, impl.Point{}, row.steps, row.bend)
		same(t, fmt.Sprint("price of ", len(row.steps), " steps"), results(price, ok), results(row.price, row.ok))
	}
	end, ok := impl.EndOf(m, impl.Point{}, pairs+"r")
	same(t, "end of 1001 steps", results(end, ok), results(impl.Point{X: 1}, true))
	end, ok = impl.EndOf(m, impl.Point{}, strings.Repeat(pairs, 100)+"r")
	same(t, "end of many steps", results(end, ok), results(impl.Point{X: 1}, true))
	end, ok = impl.EndOf(m, impl.Point{}, strings.Repeat(pairs, 100)+"l")
	same(t, "end of many steps out of the maze", results(end, ok), results(impl.Point{}, false))
}

func TestPromise5BendPrices(t *testing.T) {
	m := mazeOf("111/1#1/111")
	from, to := impl.Point{}, impl.Point{X: 2, Y: 2}
	for _, bend := range []int64{0, 1, 999999999, 1000000000, 1000000001, -1, math.MinInt64, math.MaxInt64, 1 << 32} {
		ok := bend >= 0 && bend <= 1000000000
		want := results("", 0, false, 0, false, 0, false)
		if ok {
			want = results("rruu", 4+bend, true, 2, true, 4+bend, true)
		}
		steps, price, a := impl.CheapestWay(m, from, to, bend)
		count, b := impl.CountCheapest(m, from, to, bend)
		other, c := impl.PriceOf(m, from, "uurr", bend)
		same(t, fmt.Sprint("bend ", bend), results(steps, price, a, count, b, other, c), want)
	}
}

// checkWays compares the cheapest ways with those that are told.
func checkWays(t *testing.T, m impl.Maze, from, to impl.Point, bend int64, want ways, found bool) {
	t.Helper()
	what := fmt.Sprint(from, " to ", to, ", bend ", bend, ", in ", plainMaze(m))
	steps, price, ok := impl.CheapestWay(m, from, to, bend)
	same(t, "way from "+what, results(steps, price, ok), results(want.first, want.price, found))
	count, ok := impl.CountCheapest(m, from, to, bend)
	same(t, "ways from "+what, results(count, ok), results(want.count, found))
	if found {
		end, ok := impl.EndOf(m, from, steps)
		same(t, "end of way from "+what, results(end, ok), results(to, true))
		again, ok := impl.PriceOf(m, from, steps, bend)
		same(t, "price of way from "+what, results(again, ok), results(price, true))
	}
}

// checkTried compares the cheapest ways of a maze with all ways that have at
// most so many steps.
func checkTried(t *testing.T, m impl.Maze, most int, comeBack bool, bend int64) {
	t.Helper()
	for _, from := range openCells(m) {
		all := tryWays(m, from, most, comeBack, bend)
		for _, to := range openCells(m) {
			if all[to] == nil {
				checkWays(t, m, from, to, bend, ways{}, false)
			} else {
				checkWays(t, m, from, to, bend, *all[to], true)
			}
		}
	}
}

func TestPromise5CheapestWay(t *testing.T) {
	for _, bend := range []int64{0, 1, 5, impl.MaxValue} {
		for _, size := range [][2]int{{1, 1}, {3, 1}, {1, 3}, {2, 2}, {3, 2}, {2, 3}} {
			mazesOf(size[0], size[1], counting(0, 3), func(m impl.Maze) { checkTried(t, m, 6, false, bend) })
		}
		mazesOf(3, 3, counting(0, 2), func(m impl.Maze) { checkTried(t, m, 9, false, bend) })
	}
	diceMazes(250, 4, 3, func(dice *rand.Rand, m impl.Maze) { checkTried(t, m, 12, false, dice.Int63n(12)) })
	diceMazes(250, 3, 4, func(dice *rand.Rand, m impl.Maze) { checkTried(t, m, 12, false, dice.Int63n(3)) })
}

// TestPromise5CheapestOfAll also tries ways that come back to a cell.
func TestPromise5CheapestOfAll(t *testing.T) {
	for _, bend := range []int64{0, 1, impl.MaxValue} {
		for _, size := range [][2]int{{2, 1}, {1, 3}, {2, 2}} {
			mazesOf(size[0], size[1], counting(0, 3), func(m impl.Maze) { checkTried(t, m, 6, true, bend) })
		}
	}
	diceMazes(100, 3, 2, func(dice *rand.Rand, m impl.Maze) { checkTried(t, m, 8, true, dice.Int63n(6)) })
	diceMazes(100, 2, 3, func(dice *rand.Rand, m impl.Maze) { checkTried(t, m, 8, true, dice.Int63n(2)) })
}

// TestPromise5CheapestWide has mazes of all sizes, and a bend that is worth
// more than all cells.
func TestPromise5CheapestWide(t *testing.T) {
	several, long, none, straighter := 0, 0, 0, 0
	check := func(dice *rand.Rand, m impl.Maze) {
		dicePairs(dice, m, 1, func(from, to impl.Point) {
			bent := map[int64]string{}
			for _, bend := range []int64{0, 1 + dice.Int63n(10), impl.MaxValue} {
				f := findWays(m, to, bend)
				for _, start := range append(openCells(m)[:1], from) {
					want, found := f.ways(start)
					checkWays(t, m, start, to, bend, want, found)
					several += int(min(want.count/2, 1))
					long += len(want.first) / 15
					if !found {
						none++
					}
					bent[bend] = want.first
				}
			}
			if bent[0] != bent[impl.MaxValue] {
				straighter++
			}
		})
	}
	diceMazes(120, 12, 12, check)
	dice := rand.New(rand.NewSource(43))
	for range 20 {
		check(dice, diceMaze(dice, 12, 12, dice.Intn(4), 1+dice.Int63n(9)))
	}
	if several < 50 || long < 30 || none < 50 || straighter < 30 {
		t.Errorf("too few have several ways, %d, long ones, %d, none, %d, or straighter ones, %d", several, long, none, straighter)
	}
}

func TestPromise5CheapestByHand(t *testing.T) {
	for _, row := range []struct {
		maze     string
		from, to impl.Point
		bend     int64
		want     ways
	}{
		{"1", impl.Point{}, impl.Point{}, 0, ways{"", 0, 1}}, // one cell
		{"9", impl.Point{}, impl.Point{}, 1000000000, ways{"", 0, 1}},
		{"11", impl.Point{}, impl.Point{}, 3, ways{"", 0, 1}}, // from a cell to itself
		{"19", impl.Point{}, impl.Point{X: 1}, 3, ways{"r", 9, 1}},
		{"19", impl.Point{X: 1}, impl.Point{}, 3, ways{"l", 1, 1}}, // only cells into which steps lead have a price
		{"1/9", impl.Point{}, impl.Point{Y: 1}, 3, ways{"u", 9, 1}},
		{"1/9", impl.Point{Y: 1}, impl.Point{}, 3, ways{"d", 1, 1}},
		{"123456789123", impl.Point{}, impl.Point{X: 11}, 1000000000, ways{"rrrrrrrrrrr", 50, 1}}, // one row
		{"1/2/3/4/5/6/7/8/9/1/2/3", impl.Point{Y: 11}, impl.Point{}, 1000000000, ways{"ddddddddddd", 48, 1}},
		{"111/1#1/111", impl.Point{}, impl.Point{X: 2, Y: 2}, 0, ways{"rruu", 4, 2}},
		{"111/1#1/111", impl.Point{}, impl.Point{X: 2, Y: 2}, 1, ways{"rruu", 5, 2}},
		{"111/1#1/121", impl.Point{}, impl.Point{X: 2, Y: 2}, 0, ways{"rruu", 4, 1}},
		{"121/1#1/111", impl.Point{}, impl.Point{X: 2, Y: 2}, 0, ways{"uurr", 4, 1}},
		{"111/111/111", impl.Point{}, impl.Point{X: 2, Y: 2}, 0, ways{"rruu", 4, 6}},
		{"111/111/111", impl.Point{}, impl.Point{X: 2, Y: 2}, 1, ways{"rruu", 5, 2}}, // only those with one bend
		{"111/111/111", impl.Point{X: 2, Y: 2}, impl.Point{}, 0, ways{"ddll", 4, 6}},
		{"111/111/111", impl.Point{X: 2}, impl.Point{Y: 2}, 0, ways{"lluu", 4, 6}},
		{"111/111/111", impl.Point{Y: 2}, impl.Point{X: 2}, 0, ways{"ddrr", 4, 6}},
		{"131/111", impl.Point{}, impl.Point{X: 2}, 0, ways{"rr", 4, 2}},             // as cheap with two steps as with four
		{"111/131", impl.Point{Y: 1}, impl.Point{X: 2, Y: 1}, 0, ways{"drru", 4, 2}}, // d is less than r
		{"111/131", impl.Point{Y: 1}, impl.Point{X: 2, Y: 1}, 1, ways{"rr", 4, 1}},   // two bends
		{"191/191/111", impl.Point{}, impl.Point{X: 2}, 0, ways{"uurrdd", 6, 1}},     // more steps are cheaper
		{"191/191/111", impl.Point{}, impl.Point{X: 2}, 1, ways{"uurrdd", 8, 1}},     // the first step is no bend
		{"191/191/111", impl.Point{}, impl.Point{X: 2}, 2, ways{"rr", 10, 2}},        // two bends are as much as the dear cell
		{"191/191/111", impl.Point{}, impl.Point{X: 2}, 3, ways{"rr", 10, 1}},        // and here they are more
		{"1111/1##1/1##1/1111", impl.Point{X: 1}, impl.Point{X: 2, Y: 3}, 1, ways{"luuurr", 8, 2}},
		{"1111/1##1/1##2/1111", impl.Point{X: 1}, impl.Point{X: 2, Y: 3}, 1, ways{"luuurr", 8, 1}},
		{"1111/2##1/1##1/1111", impl.Point{X: 1}, impl.Point{X: 2, Y: 3}, 1, ways{"rruuul", 8, 1}},
	} {
		checkWays(t, mazeOf(row.maze), row.from, row.to, row.bend, row.want, true)
	}
}

func TestPromise5NoWayByHand(t *testing.T) {
	for _, row := range []struct {
		maze     string
		from, to impl.Point
	}{
		{"1#1", impl.Point{}, impl.Point{X: 2}},
		{"1/#/1", impl.Point{}, impl.Point{Y: 2}},
		{"1#/#1", impl.Point{}, impl.Point{X: 1, Y: 1}}, // no step leads across a corner
		{"11#/##1", impl.Point{}, impl.Point{X: 2, Y: 1}},
		{"1#1/###/1#1", impl.Point{X: 2, Y: 2}, impl.Point{}},
		{"#", impl.Point{}, impl.Point{}}, // all cells are walls
		{"##/##", impl.Point{}, impl.Point{X: 1, Y: 1}},
		{"1#", impl.Point{}, impl.Point{X: 1}}, // to a wall
		{"1#", impl.Point{X: 1}, impl.Point{}},
		{"1#", impl.Point{X: 1}, impl.Point{X: 1}},
		{"11", impl.Point{}, impl.Point{X: 2}}, // out of the maze
		{"11", impl.Point{}, impl.Point{Y: 1}},
		{"11", impl.Point{X: -1}, impl.Point{X: 1}},
		{"11", impl.Point{X: 2}, impl.Point{X: 2}},
		{"11/1", impl.Point{}, impl.Point{}}, // no maze
		{"1111111111111", impl.Point{}, impl.Point{}},
	} {
		for _, bend := range []int64{0, 1, impl.MaxValue} {
			checkWays(t, mazeOf(row.maze), row.from, row.to, bend, ways{}, false)
		}
	}
}

func TestPromise5LargestMazes(t *testing.T) {
	right, up := strings.Repeat("r", 11), strings.Repeat("u", 11)
	left, down := strings.Repeat("l", 11), strings.Repeat("d", 11)
	for _, price := range []int64{1, 9} {
		m := evenMaze(12, 12, price)
		for _, row := range []struct {
			from, to impl.Point
			first    string
		}{
			{impl.Point{}, impl.Point{X: 11, Y: 11}, right + up},
			{impl.Point{X: 11, Y: 11}, impl.Point{}, down + left},
			{impl.Point{X: 11}, impl.Point{Y: 11}, left + up},
			{impl.Point{Y: 11}, impl.Point{X: 11}, down + right},
		} {
			checkWays(t, m, row.from, row.to, 0, ways{row.first, 22 * price, 705432}, true)
			checkWays(t, m, row.from, row.to, 1, ways{row.first, 22*price + 1, 2}, true)
			checkWays(t, m, row.from, row.to, impl.MaxValue, ways{row.first, 22*price + impl.MaxValue, 2}, true)
		}
	}
	turns := mazeOf("111111111111/###########1/111111111111/1###########/111111111111/###########1/" +
		"111111111111/1###########/111111111111/###########1/111111111111/1###########")
	pair := right + "uu" + left + "uu"
	all := strings.TrimSuffix(pair+pair+pair, "u")
	for _, bend := range []int64{0, 1, impl.MaxValue} {
		checkWays(t, turns, impl.Point{}, impl.Point{Y: 11}, bend, ways{all, 77 + 11*bend, 1}, true)
	}
}

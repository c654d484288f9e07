package tests

import (
	"math/rand"
	"slices"
	"strings"

	"loop.example/g01149/impl"
)

// mazeOf has the rows of a text: digits, and # for a wall.
func mazeOf(text string) impl.Maze {
	var m impl.Maze
	for row := range strings.SplitSeq(text, "/") {
		var cells []int64
		for _, mark := range strings.ReplaceAll(row, "#", "0") {
			cells = append(cells, int64(mark-'0'))
		}
		m.Cells = append(m.Cells, cells)
	}
	return m
}

// evenMaze has the same price in all cells.
func evenMaze(width, height int, price int64) impl.Maze {
	m := impl.Maze{Cells: make([][]int64, height)}
	for y := range m.Cells {
		m.Cells[y] = slices.Repeat([]int64{price}, width)
	}
	return m
}

// mazesOf calls visit with all mazes of a size that have only some prices.
func mazesOf(width, height int, prices []int64, visit func(impl.Maze)) {
	cells := make([]int64, width*height)
	var fill func(i int)
	fill = func(i int) {
		if i == len(cells) {
			m := impl.Maze{}
			for row := range slices.Chunk(slices.Clone(cells), width) {
				m.Cells = append(m.Cells, row)
			}
			visit(m)
			return
		}
		for _, price := range prices {
			cells[i] = price
			fill(i + 1)
		}
	}
	fill(0)
}

// diceMaze has walls in so many of ten cells, and prices up to the greatest.
func diceMaze(dice *rand.Rand, width, height, walls int, greatest int64) impl.Maze {
	m := evenMaze(width, height, 0)
	for _, row := range m.Cells {
		for x := range row {
			if dice.Intn(10) >= walls {
				row[x] = 1 + dice.Int63n(greatest)
			}
		}
	}
	return m
}

// diceMazes calls visit with mazes of all sizes up to some.
func diceMazes(count, width, height int, visit func(*rand.Rand, impl.Maze)) {
	dice := rand.New(rand.NewSource(41))
	for range count {
		greatest := []int64{1, 2, 9}[dice.Intn(3)]
		visit(dice, diceMaze(dice, 1+dice.Intn(width), 1+dice.Intn(height), dice.Intn(6), greatest))
	}
}

func isMaze(m impl.Maze) bool {
	if len(m.Cells) == 0 || len(m.Cells) > 12 {
		return false
	}
	for _, row := range m.Cells {
		if len(row) == 0 || len(row) > 12 || len(row) != len(m.Cells[0]) {
			return false
		}
		for _, price := range row {
			if price < 0 || price > 9 {
				return false
			}
		}
	}
	return true
}

func isCell(m impl.Maze, p impl.Point) bool {
	return p.Y >= 0 && p.Y < int64(len(m.Cells)) && p.X >= 0 && p.X < int64(len(m.Cells[0]))
}

func isOpenCell(m impl.Maze, p impl.Point) bool {
	return isMaze(m) && isCell(m, p) && m.Cells[p.Y][p.X] > 0
}

// cellsIn returns the points of all cells in the order of their X, and then Y.
func cellsIn(m impl.Maze) []impl.Point {
	return slices.DeleteFunc(square(12), func(p impl.Point) bool { return !isCell(m, p) })
}

func openCells(m impl.Maze) []impl.Point {
	return slices.DeleteFunc(cellsIn(m), func(p impl.Point) bool { return m.Cells[p.Y][p.X] == 0 })
}

// dicePairs calls visit with so many pairs of open cells of a maze.
func dicePairs(dice *rand.Rand, m impl.Maze, count int, visit func(from, to impl.Point)) {
	open := openCells(m)
	for range count {
		if len(open) > 0 {
			visit(open[dice.Intn(len(open))], open[dice.Intn(len(open))])
		}
	}
}

// allPairs calls visit with all pairs of open cells of a maze.
func allPairs(m impl.Maze, visit func(from, to impl.Point)) {
	for _, from := range openCells(m) {
		for _, to := range openCells(m) {
			visit(from, to)
		}
	}
}

func move(p impl.Point, letter byte) impl.Point {
	switch letter {
	case 'd':
		return impl.Point{X: p.X, Y: p.Y - 1}
	case 'l':
		return impl.Point{X: p.X - 1, Y: p.Y}
	case 'r':
		return impl.Point{X: p.X + 1, Y: p.Y}
	}
	return impl.Point{X: p.X, Y: p.Y + 1}
}

func areBeside(p, q impl.Point) bool {
	return slices.ContainsFunc([]byte("dlru"), func(letter byte) bool { return move(p, letter) == q })
}

// cellsOnWay returns all cells of a way, also the first one.
func cellsOnWay(m impl.Maze, from impl.Point, steps string) ([]impl.Point, bool) {
	if !isOpenCell(m, from) {
		return nil, false
	}
	cells := []impl.Point{from}
	for _, letter := range []byte(steps) {
		next := move(cells[len(cells)-1], letter)
		if !strings.Contains("dlru", string([]byte{letter})) || !isOpenCell(m, next) {
			return nil, false
		}
		cells = append(cells, next)
	}
	return cells, true
}

func priceOfWay(m impl.Maze, cells []impl.Point, steps string, bend int64) int64 {
	price := int64(0)
	for i, p := range cells {
		if i > 0 {
			price += m.Cells[p.Y][p.X]
		}
		if i > 1 && steps[i-1] != steps[i-2] {
			price += bend
		}
	}
	return price
}

// ways are the cheapest ones from one cell to another one.
type ways struct {
	first string
	price int64
	count int64
}

func (w *ways) add(steps string, price int64) {
	switch {
	case w.count == 0 || price < w.price:
		*w = ways{steps, price, 1}
	case price == w.price:
		w.first = min(w.first, steps)
		w.count++
	}
}

// tryWays returns the cheapest ones of all ways from a cell that have at most
// so many steps, by the cell to which they lead. They come back to cells that
// they have left only if they are told to.
func tryWays(m impl.Maze, from impl.Point, most int, comeBack bool, bend int64) map[impl.Point]*ways {
	all := map[impl.Point]*ways{}
	cells := []impl.Point{from}
	var try func(steps string)
	try = func(steps string) {
		end := cells[len(cells)-1]
		if all[end] == nil {
			all[end] = &ways{}
		}
		all[end].add(steps, priceOfWay(m, cells, steps, bend))
		if len(steps) == most {
			return
		}
		for _, letter := range []string{"d", "l", "r", "u"} {
			next := move(end, letter[0])
			if isOpenCell(m, next) && (comeBack || !slices.Contains(cells, next)) {
				cells = append(cells, next)
				try(steps + letter)
				cells = cells[:len(cells)-1]
			}
		}
	}
	try("")
	return all
}

// afterStep is a cell, and the letter of the step that led there, or a blank.
type afterStep struct {
	cell   impl.Point
	letter byte
}

// wayFinder has the least price of the rest of a way to a cell.
type wayFinder struct {
	maze  impl.Maze
	to    impl.Point
	bend  int64
	rest  map[afterStep]int64
	count map[afterStep]int64
}

// findWays makes prices less as long as a step shows that they can be less.
func findWays(m impl.Maze, to impl.Point, bend int64) wayFinder {
	f := wayFinder{m, to, bend, map[afterStep]int64{}, map[afterStep]int64{}}
	for _, letter := range []byte(" dlru") {
		f.rest[afterStep{to, letter}] = 0
	}
	for changed := true; changed; {
		changed = false
		for _, cell := range openCells(m) {
			for _, before := range []byte(" dlru") {
				now := afterStep{cell, before}
				for _, letter := range []byte("dlru") {
					price, found := f.by(now, letter)
					old, known := f.rest[now]
					if found && (!known || price < old) {
						f.rest[now] = price
						changed = true
					}
				}
			}
		}
	}
	return f
}

// by returns the least price of the rest of a way that goes on by a step.
func (f wayFinder) by(now afterStep, letter byte) (int64, bool) {
	next := afterStep{move(now.cell, letter), letter}
	price, found := f.rest[next]
	if !found {
		return 0, false
	}
	price += f.maze.Cells[next.cell.Y][next.cell.X]
	if now.letter != ' ' && now.letter != letter {
		price += f.bend
	}
	return price, true
}

// ways returns the cheapest ways from a cell.
func (f wayFinder) ways(from impl.Point) (ways, bool) {
	start := afterStep{from, ' '}
	price, found := f.rest[start]
	if !found {
		return ways{}, false
	}
	steps := ""
	for now := start; now.cell != f.to; {
		letter := f.next(now)[0]
		steps += string([]byte{letter})
		now = afterStep{move(now.cell, letter), letter}
	}
	return ways{steps, price, f.countFrom(start)}, true
}

// next returns the letters by which a cheapest way goes on.
func (f wayFinder) next(now afterStep) []byte {
	return slices.DeleteFunc([]byte("dlru"), func(letter byte) bool {
		price, found := f.by(now, letter)
		return !found || price != f.rest[now]
	})
}

func (f wayFinder) countFrom(now afterStep) int64 {
	if now.cell == f.to {
		return 1
	}
	if count, known := f.count[now]; known {
		return count
	}
	for _, letter := range f.next(now) {
		f.count[now] += f.countFrom(afterStep{move(now.cell, letter), letter})
	}
	return f.count[now]
}

// rowBits has a bit for each cell of a maze, in a number for each row.
type rowBits [12]uint16

func (r *rowBits) set(p impl.Point)      { r[p.Y] |= 1 << p.X }
func (r *rowBits) drop(p impl.Point)     { r[p.Y] &^= 1 << p.X }
func (r *rowBits) has(p impl.Point) bool { return r[p.Y]>>p.X&1 == 1 }

func openBits(m impl.Maze) rowBits {
	var open rowBits
	for _, p := range openCells(m) {
		open.set(p)
	}
	return open
}

// flood returns the open cells to which ways lead.
func flood(open rowBits, from impl.Point) rowBits {
	var reached rowBits
	reached.set(from)
	for {
		next := reached
		for y := range reached {
			row := reached[y]
			next[y] |= row<<1 | row>>1
			if y > 0 {
				next[y] |= reached[y-1]
			}
			if y < 11 {
				next[y] |= reached[y+1]
			}
			next[y] &= open[y]
		}
		if next == reached {
			return reached
		}
		reached = next
	}
}

func pointsOf(bits rowBits) []impl.Point {
	return slices.DeleteFunc(square(12), func(p impl.Point) bool { return !bits.has(p) })
}

// setsOf calls visit with all sets of so many of the points, in their order.
// The set is the same memory for all calls.
func setsOf(points []impl.Point, size int, visit func([]impl.Point)) {
	set := make([]impl.Point, 0, size)
	var grow func(first int)
	grow = func(first int) {
		if len(set) == size {
			visit(set)
			return
		}
		for i := first; i < len(points); i++ {
			set = append(set, points[i])
			grow(i + 1)
			set = set[:len(set)-1]
		}
	}
	grow(0)
}

// fewestOfSets tries all sets of at most so many cells, and returns the first
// one of those that block two cells and have the fewest cells, and of these
// leave the fewest cells that are reached.
func fewestOfSets(m impl.Maze, from, to impl.Point, most int) ([]impl.Point, bool) {
	open := openBits(m)
	cells := slices.DeleteFunc(openCells(m), func(p impl.Point) bool { return p == from || p == to })
	var best []impl.Point
	fewest := 1000
	for size := 0; size <= most && fewest == 1000; size++ {
		setsOf(cells, size, func(set []impl.Point) {
			left := open
			for _, p := range set {
				left.drop(p)
			}
			reached := flood(left, from)
			if reached.has(to) {
				return
			}
			if count := len(pointsOf(reached)); count < fewest {
				best, fewest = slices.Clone(set), count
			}
		})
	}
	return best, fewest < 1000
}

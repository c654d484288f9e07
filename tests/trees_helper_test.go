package tests

import (
	"math/bits"
	"math/rand"
	"slices"

	"loop.example/g01149/impl"
)

// far counts the steps from one point to another one.
func far(p, q impl.Point) int64 { return stepsBetween(p.X, q.X) + stepsBetween(p.Y, q.Y) }

func isOnGrid(p impl.Point) bool { return p.X >= 0 && p.X <= 99 && p.Y >= 0 && p.Y <= 99 }

func arePins(pins []impl.Point) bool {
	seen := map[impl.Point]bool{}
	for _, p := range pins {
		if !isOnGrid(p) {
			return false
		}
		seen[p] = true
	}
	return len(pins) >= 1 && len(pins) <= 20 && len(seen) == len(pins)
}

// shifted moves points to the right and up.
func shifted(list []impl.Point, right, up int64) []impl.Point {
	list = slices.Clone(list)
	for i := range list {
		list[i].X += right
		list[i].Y += up
	}
	return list
}

// turned exchanges X and Y.
func turned(list []impl.Point) []impl.Point {
	list = slices.Clone(list)
	for i, p := range list {
		list[i] = impl.Point{X: p.Y, Y: p.X}
	}
	return list
}

// oneRow has pins with some X in the order in which they are told.
func oneRow(y int64, across ...int64) []impl.Point {
	var pins []impl.Point
	for _, x := range across {
		pins = append(pins, impl.Point{X: x, Y: y})
	}
	return pins
}

// dicePins has at most so many pins, whose X and Y are less than a width and
// a height, in any order.
func dicePins(dice *rand.Rand, count, width, height int) []impl.Point {
	var pins []impl.Point
	for _, k := range dice.Perm(width * height)[:min(count, width*height)] {
		pins = append(pins, impl.Point{X: int64(k % width), Y: int64(k / width)})
	}
	return pins
}

// stretched moves the rows and the columns of pins apart, and keeps their order.
func stretched(dice *rand.Rand, pins []impl.Point) []impl.Point {
	across, up := wideRow(dice, 20), wideRow(dice, 20)
	pins = slices.Clone(pins)
	for i, p := range pins {
		pins[i] = impl.Point{X: across[p.X], Y: up[p.Y]}
	}
	return pins
}

// severalPins calls visit with pins of all numbers up to some, which are close
// together, or far apart in few rows and columns, or anywhere.
func severalPins(count, most int, visit func(dice *rand.Rand, pins []impl.Point)) {
	dice := rand.New(rand.NewSource(61))
	for i := range count {
		pins := 1 + i%most
		width, height := 1+dice.Intn(6), 1+dice.Intn(6)
		visit(dice, dicePins(dice, pins, width, height))
		visit(dice, stretched(dice, dicePins(dice, pins, width, height)))
		visit(dice, dicePins(dice, pins, 100, 100))
	}
}

// tinyPins calls visit with all lists of so many pins in a small square. The
// list is the same memory for all calls.
func tinyPins(side int64, count int, visit func(pins []impl.Point)) {
	listsOver(square(side), count, func(pins []impl.Point) {
		if arePins(pins) {
			visit(pins)
		}
	})
}

// treeByRule takes pairs as the document tells, each time out of all pairs.
func treeByRule(pins []impl.Point) (pairs [][]int64, length int64) {
	reached := make([]bool, len(pins))
	reached[0] = true
	for range pins[1:] {
		var best []int64
		least := int64(1000)
		for i := range pins {
			for j := i + 1; j < len(pins); j++ {
				if d := far(pins[i], pins[j]); reached[i] != reached[j] && d < least {
					best, least = []int64{int64(i), int64(j)}, d
				}
			}
		}
		reached[best[0]], reached[best[1]] = true, true
		pairs = append(pairs, best)
		length += least
	}
	slices.SortFunc(pairs, slices.Compare)
	return pairs, length
}

// allSpanningTrees calls visit with all spanning trees of so many pins: each
// pair joins two parts of the pins, or is left out.
func allSpanningTrees(count int, visit func(pairs [][]int64)) {
	var all [][]int64
	for i := range int64(count) {
		for j := i + 1; j < int64(count); j++ {
			all = append(all, []int64{i, j})
		}
	}
	var grow func(rest [][]int64, part []int64, taken [][]int64)
	grow = func(rest [][]int64, part []int64, taken [][]int64) {
		if len(taken) == count-1 {
			visit(taken)
			return
		}
		if len(rest) < count-1-len(taken) {
			return
		}
		grow(rest[1:], part, taken)
		old, by := part[rest[0][0]], part[rest[0][1]]
		if old == by {
			return
		}
		joined := slices.Clone(part)
		for i := range joined {
			if joined[i] == old {
				joined[i] = by
			}
		}
		grow(rest[1:], joined, append(slices.Clip(taken), rest[0]))
	}
	grow(all, counting(0, int64(count)), nil)
}

// lengthOfPairs returns the sum of the distances of pairs.
func lengthOfPairs(pins []impl.Point, pairs [][]int64) int64 {
	sum := int64(0)
	for _, pair := range pairs {
		sum += far(pins[pair[0]], pins[pair[1]])
	}
	return sum
}

// leastJoin returns the length of a shortest spanning tree: each time the point
// that is nearest to those that are reached is joined.
func leastJoin(points []impl.Point) int64 {
	away := make([]int64, len(points))
	for i, p := range points {
		away[i] = absoluteOf(p.X-points[0].X) + absoluteOf(p.Y-points[0].Y)
	}
	length := int64(0)
	for range points[1:] {
		next := -1
		for i, d := range away {
			if d > 0 && (next < 0 || d < away[next]) {
				next = i
			}
		}
		length += away[next]
		for i, p := range points {
			away[i] = min(away[i], absoluteOf(p.X-points[next].X)+absoluteOf(p.Y-points[next].Y))
		}
	}
	return length
}

func absoluteOf(n int64) int64 {
	if n < 0 {
		return -n
	}
	return n
}

// crossings returns the points of the grid with the X of some pin and the Y of
// some pin.
func crossings(pins []impl.Point) []impl.Point {
	var across, up [100]bool
	for _, p := range pins {
		across[p.X], up[p.Y] = true, true
	}
	var list []impl.Point
	for x := range across {
		for y := range up {
			if across[x] && up[y] {
				list = append(list, impl.Point{X: int64(x), Y: int64(y)})
			}
		}
	}
	return list
}

// leastWithFurther returns the least length of all spanning trees of the pins
// and at most so many further points, each of which is one of crossings.
func leastWithFurther(pins []impl.Point, most int) int64 {
	free := slices.DeleteFunc(crossings(pins), func(p impl.Point) bool { return slices.Contains(pins, p) })
	least := leastJoin(pins)
	all := slices.Clone(pins)
	for size := 1; size <= most; size++ {
		setsOf(free, size, func(set []impl.Point) {
			all = append(all[:len(pins)], set...)
			least = min(least, leastJoin(all))
		})
	}
	return least
}

// smallGrid has the points of a grid of few rows and columns as bits.
type smallGrid struct {
	width, height int
}

func (g smallGrid) pointsOf(set uint32) []impl.Point {
	var list []impl.Point
	for ; set != 0; set &= set - 1 {
		k := bits.TrailingZeros32(set)
		list = append(list, impl.Point{X: int64(k % g.width), Y: int64(k / g.width)})
	}
	return list
}

// isJoined reports whether steps between neighbouring points of a set lead
// from one of them to all others.
func (g smallGrid) isJoined(set uint32) bool {
	left, right := uint32(0), uint32(0)
	for y := range g.height {
		left |= 1 << (y * g.width)
		right |= 1 << (y*g.width + g.width - 1)
	}
	reached := set & -set
	for {
		next := reached | (reached&^right)<<1 | (reached&^left)>>1 | reached<<g.width | reached>>g.width
		next &= set
		if next == reached {
			return reached == set
		}
		reached = next
	}
}

// shortest returns, for each set of points, the fewest steps of a tree in this
// grid that has them all, by trying all sets of points that a tree can have: it
// has one step less than points. No tree is shorter that leaves the grid, as
// its points can be moved to the edge.
func (g smallGrid) shortest() []int8 {
	steps := make([]int8, 1<<(g.width*g.height))
	for set := range steps {
		steps[set] = 127
		if set != 0 && g.isJoined(uint32(set)) {
			steps[set] = int8(bits.OnesCount(uint(set))) - 1
		}
	}
	for bit := 1; bit < len(steps); bit <<= 1 {
		for set := range steps {
			steps[set] = min(steps[set], steps[set|bit])
		}
	}
	return steps
}

// bendByHand returns the least of all choices with the fewest steps, and these,
// where count tells how many choices have as few.
func bendByHand(pins []impl.Point) (best string, fewest, count int64) {
	pairs, _ := treeByRule(pins)
	for number := range 1 << len(pairs) {
		choice := ""
		for i := range pairs {
			choice += string("xy"[number>>(len(pairs)-1-i)&1])
		}
		steps := stepsOfChoice(pins, pairs, choice)
		if number == 0 || steps < fewest {
			best, fewest, count = choice, steps, 0
		}
		if steps == fewest {
			count++
		}
	}
	return best, fewest, count
}

func stepsOfChoice(pins []impl.Point, pairs [][]int64, choice string) int64 {
	used := map[[2]impl.Point]bool{}
	for i, pair := range pairs {
		p, to := pins[pair[0]], pins[pair[1]]
		for p != to {
			next := p
			if p.X != to.X && (choice[i] == 'x' || p.Y == to.Y) {
				next.X += max(-1, min(1, to.X-p.X))
			} else {
				next.Y += max(-1, min(1, to.Y-p.Y))
			}
			step := [2]impl.Point{p, next}
			if next.X < p.X || next.Y < p.Y {
				step = [2]impl.Point{next, p}
			}
			used[step] = true
			p = next
		}
	}
	return int64(len(used))
}

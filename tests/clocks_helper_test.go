package tests

import (
	"math/rand"
	"slices"

	"loop.example/g01149/impl"
)

// region has the ends of U, and then those of V.
func region(lowU, highU, lowV, highV int64) impl.Region {
	return impl.Region{LowU: lowU, HighU: highU, LowV: lowV, HighV: highV}
}

func onePlace(u, v int64) impl.Region { return region(u, u, v, v) }

func isRegion(r impl.Region) bool {
	for _, n := range []int64{r.LowU, r.HighU, r.LowV, r.HighV} {
		if n < -1000000000 || n > 1000000000 {
			return false
		}
	}
	return r.LowU <= r.HighU && r.LowV <= r.HighV
}

// regionsIn has all regions whose ends are from 0 to less than some number.
func regionsIn(count int64) []impl.Region {
	var all []impl.Region
	for low := range count {
		for high := low; high < count; high++ {
			for below := range count {
				for above := below; above < count; above++ {
					all = append(all, region(low, high, below, above))
				}
			}
		}
	}
	return all
}

// turnedPlace has U and V.
type turnedPlace [2]int64

func placesIn(r impl.Region) []turnedPlace {
	var places []turnedPlace
	for u := r.LowU; u <= r.HighU; u++ {
		for v := r.LowV; v <= r.HighV; v++ {
			places = append(places, turnedPlace{u, v})
		}
	}
	return places
}

func (p turnedPlace) farFrom(q turnedPlace) int64 {
	return max(absoluteOf(p[0]-q[0]), absoluteOf(p[1]-q[1]))
}

// farFromRegion tries all places of a small region.
func (p turnedPlace) farFromRegion(r impl.Region) int64 {
	least := int64(1 << 40)
	for _, q := range placesIn(r) {
		least = min(least, p.farFrom(q))
	}
	return least
}

func farByPlaces(a, b impl.Region) int64 {
	least := int64(1 << 40)
	for _, p := range placesIn(a) {
		least = min(least, p.farFromRegion(b))
	}
	return least
}

// placesWhere has the places from -reach to reach that keep a rule.
func placesWhere(reach int64, keeps func(turnedPlace) bool) []turnedPlace {
	return slices.DeleteFunc(placesIn(region(-reach, reach, -reach, reach)), func(p turnedPlace) bool { return !keeps(p) })
}

// mergeByRule has at first the wires that the delays alone ask for, and makes
// both longer by the half of what they are too short.
func mergeByRule(a, b impl.Merge) (m impl.Merge, toA, toB int64, ok bool) {
	for _, given := range []impl.Merge{a, b} {
		if !isRegion(given.Region) || given.Delay < 0 || given.Delay > 1000000000 {
			return impl.Merge{}, 0, 0, false
		}
	}
	r, s := a.Region, b.Region
	far := max(r.LowU-s.HighU, s.LowU-r.HighU, r.LowV-s.HighV, s.LowV-r.HighV, 0)
	most := max(a.Delay, b.Delay)
	toA, toB = most-a.Delay, most-b.Delay
	if short := far - toA - toB; short > 0 {
		if short%2 != 0 {
			return impl.Merge{}, 0, 0, false
		}
		toA, toB = toA+short/2, toB+short/2
	}
	m.Region = region(max(r.LowU-toA, s.LowU-toB), min(r.HighU+toA, s.HighU+toB), max(r.LowV-toA, s.LowV-toB), min(r.HighV+toA, s.HighV+toB))
	m.Delay = b.Delay + toB
	if !isRegion(m.Region) || m.Delay > 1000000000 {
		return impl.Merge{}, 0, 0, false
	}
	return m, toA, toB, true
}

// isJoinsByRule counts in how many joins each node is.
func isJoinsByRule(count int64, joins [][]int64) bool {
	if count < 2 || count > 12 || len(joins) != int(count)-1 {
		return false
	}
	times := map[int64]int{}
	for i, join := range joins {
		if len(join) != 2 || join[0] < 0 || join[0] >= join[1] || join[1] >= count+int64(i) {
			return false
		}
		times[join[0]]++
		times[join[1]]++
	}
	for node := range 2*count - 2 {
		if times[node] != 1 {
			return false
		}
	}
	return true
}

// allJoins has all joins of so many pins in lexicographic order: it tries all
// lists of pairs.
func allJoins(count int64) [][][]int64 {
	var pairs [][]int64
	for low := range 2*count - 2 {
		for high := low + 1; high < 2*count-2; high++ {
			pairs = append(pairs, []int64{low, high})
		}
	}
	var all [][][]int64
	joins := make([][]int64, count-1)
	var fill func(i int)
	fill = func(i int) {
		if i == len(joins) {
			if isJoinsByRule(count, joins) {
				all = append(all, slices.Clone(joins))
			}
			return
		}
		for _, pair := range pairs {
			joins[i] = pair
			fill(i + 1)
		}
	}
	fill(0)
	return all
}

// diceJoins has some joins of so many pins.
func diceJoins(dice *rand.Rand, count int) [][]int64 {
	free := counting(0, int64(count))
	var joins [][]int64
	for i := range count - 1 {
		dice.Shuffle(len(free), func(i, j int) { free[i], free[j] = free[j], free[i] })
		joins = append(joins, []int64{min(free[0], free[1]), max(free[0], free[1])})
		free = append(free[2:], int64(count+i))
	}
	return joins
}

// chainJoins joins one pin after another with all pins before it.
func chainJoins(count int64) [][]int64 {
	joins := lists("0 1")
	for pin := int64(2); pin < count; pin++ {
		joins = append(joins, []int64{pin, count + pin - 2})
	}
	return joins
}

// diceLeaves has pins that can be the same, in a square.
func diceLeaves(dice *rand.Rand, count, side int) []impl.Point {
	var pins []impl.Point
	for range count {
		pins = append(pins, impl.Point{X: int64(dice.Intn(side)), Y: int64(dice.Intn(side))})
	}
	return pins
}

// severalClocks calls visit with pins of all numbers and joins of them.
func severalClocks(count int, visit func(pins []impl.Point, joins [][]int64)) {
	dice := rand.New(rand.NewSource(83))
	for i := range count {
		pins := 2 + i%11
		for _, side := range []int{2, 5, 100} {
			visit(diceLeaves(dice, pins, side), diceJoins(dice, pins))
		}
		visit(diceLeaves(dice, pins, 100), chainJoins(int64(pins)))
	}
}

// clock has what the document tells of pins and joins, by node.
type clock struct {
	merges []impl.Merge
	wires  []int64
	places [][]int64
	sum    int64
}

func clockByRule(pins []impl.Point, joins [][]int64) clock {
	var c clock
	for _, p := range pins {
		c.merges = append(c.merges, impl.Merge{Region: onePlace(4096*(p.X+p.Y), 4096*(p.X-p.Y))})
	}
	nodes := 2*len(pins) - 1
	c.wires, c.places = make([]int64, nodes), make([][]int64, nodes)
	for _, join := range joins {
		m, toA, toB, ok := mergeByRule(c.merges[join[0]], c.merges[join[1]])
		if !ok {
			panic("a merge that is not valid")
		}
		c.merges = append(c.merges, m)
		c.wires[join[0]], c.wires[join[1]] = toA, toB
		c.sum += toA + toB
	}
	top := c.merges[nodes-1].Region
	c.places[nodes-1] = []int64{top.LowU, top.LowV}
	for i := len(joins) - 1; i >= 0; i-- {
		from := c.places[len(pins)+i]
		for _, node := range joins[i] {
			r := c.merges[node].Region
			c.places[node] = []int64{into(from[0], r.LowU, r.HighU), into(from[1], r.LowV, r.HighV)}
		}
	}
	return c
}

// into returns n, or the end of a range that is nearer.
func into(n, low, high int64) int64 {
	if n < low {
		return low
	}
	if n > high {
		return high
	}
	return n
}

// nearestByRule joins as the document tells, each time out of all pairs, and
// tells whether once several pairs have the same least distance.
func nearestByRule(pins []impl.Point) (joins [][]int64, several bool) {
	var merges []impl.Merge
	for _, p := range pins {
		merges = append(merges, impl.Merge{Region: onePlace(4096*(p.X+p.Y), 4096*(p.X-p.Y))})
	}
	joined := map[int]bool{}
	for range pins[1:] {
		best, least, count := []int64(nil), int64(1<<40), 0
		for i := range merges {
			for j := i + 1; j < len(merges); j++ {
				if joined[i] || joined[j] {
					continue
				}
				a, b := merges[i].Region, merges[j].Region
				far := max(b.LowU-a.HighU, a.LowU-b.HighU, b.LowV-a.HighV, a.LowV-b.HighV, 0)
				if far < least {
					best, least, count = []int64{int64(i), int64(j)}, far, 0
				}
				if far == least {
					count++
				}
			}
		}
		m, _, _, _ := mergeByRule(merges[best[0]], merges[best[1]])
		merges = append(merges, m)
		joined[int(best[0])], joined[int(best[1])] = true, true
		joins = append(joins, best)
		several = several || count > 1
	}
	return joins, several
}

// grownTree is a merge, and the sum of the wires below it.
type grownTree struct {
	merge impl.Merge
	sum   int64
}

// treesOver returns all trees over the pins of a set: each one divides the set
// into two parts, in whatever order they have been joined.
func treesOver(pins []impl.Point, set int) []grownTree {
	if set&(set-1) == 0 {
		for i, p := range pins {
			if set == 1<<i {
				return []grownTree{{merge: impl.Merge{Region: onePlace(4096*(p.X+p.Y), 4096*(p.X-p.Y))}}}
			}
		}
	}
	var all []grownTree
	for part := (set - 1) & set; part > set&^part; part = (part - 1) & set {
		for _, a := range treesOver(pins, part) {
			for _, b := range treesOver(pins, set&^part) {
				m, toA, toB, _ := mergeByRule(a.merge, b.merge)
				all = append(all, grownTree{merge: m, sum: a.sum + b.sum + toA + toB})
			}
		}
	}
	return all
}

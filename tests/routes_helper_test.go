package tests

import (
	"math/rand"
	"slices"

	"loop.example/g01149/impl"
)

// gridOf has lists that are written with bars between them.
func gridOf(across, up string) impl.Grid {
	return impl.Grid{Across: lists(across), Up: lists(up)}
}

// oneCell is a grid without edges.
func oneCell() impl.Grid { return impl.Grid{Across: [][]int64{{}}} }

func evenGrid(width, height, room int64) impl.Grid {
	var g impl.Grid
	for range height {
		g.Across = append(g.Across, slices.Repeat([]int64{room}, int(width-1)))
	}
	for range height - 1 {
		g.Up = append(g.Up, slices.Repeat([]int64{room}, int(width)))
	}
	return g
}

// netsOf makes nets of the X and Y of From and To.
func netsOf(ends ...int64) []impl.Net {
	var nets []impl.Net
	for i := 0; i+3 < len(ends); i += 4 {
		nets = append(nets, impl.Net{From: impl.Point{X: ends[i], Y: ends[i+1]}, To: impl.Point{X: ends[i+2], Y: ends[i+3]}})
	}
	return nets
}

// isGrid tries all sizes.
func isGrid(g impl.Grid) bool {
	for width := range 8 {
		for height := range 8 {
			if haveRooms(g.Across, height+1, width) && haveRooms(g.Up, height, width+1) {
				return true
			}
		}
	}
	return false
}

func haveRooms(all [][]int64, count, length int) bool {
	for _, list := range all {
		for _, room := range list {
			if room < 0 || room > 20 {
				return false
			}
		}
		if len(list) != length {
			return false
		}
	}
	return len(all) == count
}

// sizeOf has the width and the height of a grid that is valid.
func sizeOf(g impl.Grid) (width, height int64) {
	return int64(len(g.Across[0]) + 1), int64(len(g.Across))
}

func isNetOf(g impl.Grid, n impl.Net) bool {
	if !isGrid(g) {
		return false
	}
	width, height := sizeOf(g)
	for _, p := range []impl.Point{n.From, n.To} {
		if p.X < 0 || p.Y < 0 || p.X > width-1 || p.Y > height-1 {
			return false
		}
	}
	return true
}

func areNets(g impl.Grid, nets []impl.Net) bool {
	for _, n := range nets {
		if !isNetOf(g, n) {
			return false
		}
	}
	return isGrid(g) && len(nets) <= 6
}

// allNets has all nets of a grid with so many columns and rows.
func allNets(width, height int64) []impl.Net {
	var nets []impl.Net
	for code := range width * height * width * height {
		from, to := code/(width*height), code%(width*height)
		nets = append(nets, netsOf(from%width, from/width, to%width, to/width)...)
	}
	return nets
}

// shapesByRule walks along all shortest paths, one step after another, as long
// as they have at most two turns, and puts them in the document's order.
func shapesByRule(n impl.Net) [][]impl.Point {
	var paths [][]impl.Point
	var walk func(list []impl.Point)
	walk = func(list []impl.Point) {
		end := list[len(list)-1]
		if len(turns(list)) > 2 {
			return
		}
		if end == n.To {
			paths = append(paths, list)
			return
		}
		for _, next := range shifted(at(1, 0, -1, 0, 0, 1, 0, -1), end.X, end.Y) {
			if far(next, n.To) < far(end, n.To) {
				walk(append(slices.Clone(list), next))
			}
		}
	}
	walk([]impl.Point{n.From})
	slices.SortFunc(paths, func(a, b []impl.Point) int { return slices.Compare(rankOf(a), rankOf(b)) })
	return paths
}

// rankOf tells of a path whether it begins up or down, and where it turns first.
func rankOf(list []impl.Point) []int64 {
	if len(turns(list)) == 0 {
		return nil
	}
	first := turns(list)[0]
	if first.Y == list[0].Y {
		return []int64{0, far(list[0], first)}
	}
	return []int64{1, far(list[0], first)}
}

// routed is a list of nets of a grid with the paths of their shapes, which are
// found once for each net.
type routed struct {
	grid  impl.Grid
	paths [][][]impl.Point // by net, and then by shape
}

var shapesOfNets = map[impl.Net][][]impl.Point{}

func route(g impl.Grid, nets []impl.Net) routed {
	r := routed{grid: g}
	for _, n := range nets {
		if shapesOfNets[n] == nil {
			shapesOfNets[n] = shapesByRule(n)
		}
		r.paths = append(r.paths, shapesOfNets[n])
	}
	return r
}

// sizes has the numbers of shapes, and their product.
func (r routed) sizes() (sizes []int64, product int) {
	product = 1
	for _, paths := range r.paths {
		sizes = append(sizes, int64(len(paths)))
		product *= len(paths)
	}
	return sizes, product
}

func (r routed) isChoice(chosen []int64) bool {
	for i, shape := range chosen {
		if i >= len(r.paths) || shape < 0 || int(shape) >= len(r.paths[i]) {
			return false
		}
	}
	return len(chosen) == len(r.paths)
}

// passed counts, by X and Y, how often paths go from a cell to the one beside
// it, or back, and to the one above it, or back.
type passed struct{ across, up [8][8]int64 }

// pass counts over the points of the chosen paths of the first nets.
func (r routed) pass(chosen []int64) *passed {
	var counts passed
	for i, shape := range chosen {
		list := r.paths[i][shape]
		for k := range len(list) - 1 {
			p, q := list[k], list[k+1]
			if p.Y == q.Y {
				counts.across[min(p.X, q.X)][p.Y]++
			} else {
				counts.up[p.X][min(p.Y, q.Y)]++
			}
		}
	}
	return &counts
}

// useByRule looks at the counts of all edges.
func (r routed) useByRule(chosen []int64) impl.Grid {
	counts := r.pass(chosen)
	width, height := sizeOf(r.grid)
	use := evenGrid(width, height, 0)
	for y, list := range use.Across {
		for x := range list {
			list[x] = counts.across[x][y]
		}
	}
	for y, list := range use.Up {
		for x := range list {
			list[x] = counts.up[x][y]
		}
	}
	return use
}

// differences has the use of each edge, less its room.
func (r routed) differences(chosen []int64) []int64 {
	var all []int64
	counts := r.pass(chosen)
	for y, list := range r.grid.Across {
		for x, room := range list {
			all = append(all, counts.across[x][y]-room)
		}
	}
	for y, list := range r.grid.Up {
		for x, room := range list {
			all = append(all, counts.up[x][y]-room)
		}
	}
	return all
}

func (r routed) overflowByRule(chosen []int64) int64 {
	sum := int64(0)
	for _, n := range r.differences(chosen) {
		if n > 0 {
			sum += n
		}
	}
	return sum
}

// choicesOver calls visit with all choices, in order. The list is the same
// memory for all calls.
func choicesOver(sizes []int64, visit func([]int64)) {
	chosen := make([]int64, len(sizes))
	var fill func(i int)
	fill = func(i int) {
		if i == len(sizes) {
			visit(chosen)
			return
		}
		for shape := range sizes[i] {
			chosen[i] = shape
			fill(i + 1)
		}
	}
	fill(0)
}

// bestByRule tries all choices, and tells how many of them are the best.
func (r routed) bestByRule() (first []int64, least, count int64) {
	sizes, _ := r.sizes()
	choicesOver(sizes, func(chosen []int64) {
		overflow := r.overflowByRule(chosen)
		if count == 0 || overflow < least {
			first, least, count = slices.Clone(chosen), overflow, 0
		}
		if overflow == least {
			count++
		}
	})
	return first, least, count
}

// greedyByRule tells also for how many nets several shapes are equally good.
func (r routed) greedyByRule() (chosen []int64, overflow int64, several int) {
	for i := range r.paths {
		var overflows []int64
		for shape := range r.paths[i] {
			overflows = append(overflows, r.overflowByRule(append(slices.Clone(chosen), int64(shape))))
		}
		overflow = slices.Min(overflows)
		chosen = append(chosen, int64(slices.Index(overflows, overflow)))
		if slices.Contains(overflows[slices.Index(overflows, overflow)+1:], overflow) {
			several++
		}
	}
	return chosen, r.overflowByRule(chosen), several
}

// cutByRule counts for each line the nets with ends on both sides.
func cutByRule(g impl.Grid, nets []impl.Net) int64 {
	width, height := sizeOf(g)
	sum := int64(0)
	for x := range width - 1 {
		room := int64(0)
		for y := range height {
			room += g.Across[y][x]
		}
		sum += max(0, netsOver(nets, func(p impl.Point) int64 { return p.X }, x)-room)
	}
	for y := range height - 1 {
		room := int64(0)
		for x := range width {
			room += g.Up[y][x]
		}
		sum += max(0, netsOver(nets, func(p impl.Point) int64 { return p.Y }, y)-room)
	}
	return sum
}

// netsOver counts the nets with an end in a column or row, or before it, and the
// other end behind it.
func netsOver(nets []impl.Net, of func(impl.Point) int64, line int64) int64 {
	count := int64(0)
	for _, n := range nets {
		from, to := of(n.From), of(n.To)
		if min(from, to) <= line && line < max(from, to) {
			count++
		}
	}
	return count
}

// diceGrid has rooms up to a greatest one, and few others.
func diceGrid(dice *rand.Rand, width, height, greatest int64) impl.Grid {
	g := evenGrid(width, height, 0)
	for _, list := range slices.Concat(g.Across, g.Up) {
		for i := range list {
			list[i] = dice.Int63n(greatest + 1)
			if dice.Intn(20) == 0 {
				list[i] = dice.Int63n(21)
			}
		}
	}
	return g
}

// diceNets has nets of a grid, some of which are the same, or as far as can be.
func diceNets(dice *rand.Rand, g impl.Grid, count int) []impl.Net {
	width, height := sizeOf(g)
	cell := func() impl.Point { return impl.Point{X: dice.Int63n(width), Y: dice.Int63n(height)} }
	var nets []impl.Net
	for range count {
		n := impl.Net{From: cell(), To: cell()}
		switch dice.Intn(8) {
		case 0:
			n.To.X = n.From.X
		case 1:
			n.To.Y = n.From.Y
		case 2:
			n = impl.Net{To: impl.Point{X: width - 1, Y: height - 1}}
		case 3:
			if len(nets) > 0 {
				n = nets[dice.Intn(len(nets))]
			}
		}
		nets = append(nets, n)
	}
	return nets
}

// severalRoutings calls visit with grids of many sizes, and all numbers of nets.
func severalRoutings(count int, visit func(dice *rand.Rand, g impl.Grid, nets []impl.Net)) {
	dice := rand.New(rand.NewSource(163))
	for i := range count {
		width, height := 1+dice.Int63n(8), 1+dice.Int63n(8)
		switch i % 3 {
		case 0:
			width, height = min(width, 4), min(height, 4)
		case 1:
			width, height = max(width, 7), max(height, 7)
		}
		g := diceGrid(dice, width, height, int64(i%4))
		visit(dice, g, diceNets(dice, g, i%7))
	}
}

// tinyRoutings calls visit with all rooms of 0 and 1, and up to 2 in the
// smallest grids, and all lists of up to two nets.
func tinyRoutings(visit func(g impl.Grid, nets []impl.Net)) {
	for _, size := range []struct{ width, height, greatest int64 }{{1, 1, 0}, {2, 1, 2}, {1, 2, 2}, {3, 1, 1}, {1, 3, 1}, {2, 2, 1}} {
		nets := allNets(size.width, size.height)
		roomsOver(size.width, size.height, size.greatest, func(g impl.Grid) {
			visit(g, nil)
			for _, a := range nets {
				visit(g, []impl.Net{a})
				for _, b := range nets {
					visit(g, []impl.Net{a, b})
				}
			}
		})
	}
}

func roomsOver(width, height, greatest int64, visit func(impl.Grid)) {
	edges := (width-1)*height + width*(height-1)
	choicesOver(slices.Repeat([]int64{greatest + 1}, int(edges)), func(rooms []int64) {
		g := evenGrid(width, height, 0)
		rest := slices.Clone(rooms)
		for _, list := range slices.Concat(g.Across, g.Up) {
			rest = rest[copy(list, rest):]
		}
		visit(g)
	})
}

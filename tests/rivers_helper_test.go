package tests

import (
	"math/rand"
	"slices"

	"loop.example/g01149/impl"
)

// counting is a row of count places without a gap.
func counting(first, count int64) []int64 {
	row := make([]int64, count)
	for i := range row {
		row[i] = first + int64(i)
	}
	return row
}

// everyOther is a row of count places with a free place behind each.
func everyOther(first, count int64) []int64 {
	row := make([]int64, count)
	for i := range row {
		row[i] = first + 2*int64(i)
	}
	return row
}

func moved(row []int64, shift int64) []int64 {
	row = slices.Clone(row)
	for i := range row {
		row[i] += shift
	}
	return row
}

// rowsIn returns all rows of so many pins in the places from 0 on.
func rowsIn(places, pins int64) [][]int64 {
	if pins == 0 {
		return [][]int64{nil}
	}
	var rows [][]int64
	for last := pins - 1; last < places; last++ {
		for _, row := range rowsIn(last, pins-1) {
			rows = append(rows, append(slices.Clone(row), last))
		}
	}
	return rows
}

// riversIn calls visit with all rivers of so many pins in some places.
func riversIn(places, pins int64, visit func(top, bottom []int64)) {
	for _, top := range rowsIn(places, pins) {
		for _, bottom := range rowsIn(places, pins) {
			visit(top, bottom)
		}
	}
}

// wideRivers calls visit with rivers of all numbers of pins, whose pins are
// here close together and there far apart.
func wideRivers(count int, visit func(top, bottom []int64)) {
	dice := rand.New(rand.NewSource(17))
	for i := range count {
		pins := 1 + i%impl.MaxRiver
		visit(wideRow(dice, pins), wideRow(dice, pins))
	}
}

func wideRow(dice *rand.Rand, pins int) []int64 {
	places := pins + dice.Intn(impl.MaxCoord+2-pins)
	row := make([]int64, 0, pins)
	for _, place := range dice.Perm(places)[:pins] {
		row = append(row, int64(place))
	}
	slices.Sort(row)
	return moved(row, int64(dice.Intn(impl.MaxCoord+2-places)))
}

// spot is one end of a point on a track: wires enter the point at the one
// and leave it at the other one, so that two wires never share a point.
type spot struct {
	x, y  int64
	leave bool
}

// network has the steps that wires take so far.
type network struct {
	top       []int64
	tracks    int64
	low, high int64
	taken     map[[2]spot]bool
	done      map[spot]bool
}

// haveWires reports whether wires that are apart join the pins of bottom
// with those of top. Wires from below the tracks to above them that are
// apart keep their order, so that it suffices that there are as many as
// pins: they are found one by one, each along an augmenting way.
func haveWires(top, bottom []int64, tracks int64) bool {
	if tracks == 0 {
		return slices.Equal(top, bottom)
	}
	n := &network{
		top: top, tracks: tracks,
		low: min(top[0], bottom[0]) - 1, high: max(top[len(top)-1], bottom[len(bottom)-1]) + 1,
		taken: map[[2]spot]bool{}, done: map[spot]bool{},
	}
	for _, x := range bottom {
		if !n.augment(spot{x: x, y: 1}, map[spot]bool{}) {
			return false
		}
	}
	return true
}

func (n *network) augment(from spot, seen map[spot]bool) bool {
	if seen[from] {
		return false
	}
	seen[from] = true
	if from.leave && from.y == n.tracks && slices.Contains(n.top, from.x) && !n.done[from] {
		n.done[from] = true
		return true
	}
	for _, d := range [][2]int64{{0, 0}, {0, 1}, {1, 0}, {-1, 0}, {0, -1}} {
		to := spot{x: from.x + d[0], y: from.y + d[1], leave: !from.leave}
		if to.x < n.low || to.x > n.high || to.y < 1 || to.y > n.tracks {
			continue
		}
		forward := from.leave != (d == [2]int64{})
		free := forward && !n.taken[[2]spot{from, to}] || !forward && n.taken[[2]spot{to, from}]
		if free && n.augment(to, seen) {
			if forward {
				n.taken[[2]spot{from, to}] = true
			} else {
				delete(n.taken, [2]spot{to, from})
			}
			return true
		}
	}
	return false
}

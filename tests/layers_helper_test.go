package tests

import (
	"math/rand"
	"slices"

	"loop.example/g01149/impl"
)

// wired has lists that are written with bars between them. Where fixed is
// empty, no segment is fixed.
func wired(segments int64, crossings, joints, fixed string) impl.Wiring {
	w := impl.Wiring{Segments: segments, Crossings: lists(crossings), Joints: lists(joints), Fixed: numbers(fixed)}
	if fixed == "" {
		w.Fixed = nowhereFixed(segments)
	}
	return w
}

func nowhereFixed(segments int64) []int64 { return slices.Repeat([]int64{-1}, int(segments)) }

// pairsOf has all pairs of so many segments in order.
func pairsOf(segments int64) [][]int64 {
	var pairs [][]int64
	for i := range segments {
		for k := i + 1; k < segments; k++ {
			pairs = append(pairs, []int64{i, k})
		}
	}
	return pairs
}

// chosenOf has the lists at the ones of a number.
func chosenOf(all [][]int64, ones int) [][]int64 {
	var chosen [][]int64
	for i, list := range all {
		if ones>>i&1 == 1 {
			chosen = append(chosen, list)
		}
	}
	return chosen
}

// isWiring writes each list as one number, so that their order is that of
// these numbers.
func isWiring(w impl.Wiring) bool {
	if w.Segments < 0 || w.Segments > 14 || int64(len(w.Fixed)) != w.Segments {
		return false
	}
	for _, layer := range w.Fixed {
		if layer != -1 && layer != 0 && layer != 1 {
			return false
		}
	}
	for size, all := range map[int][][]int64{2: w.Crossings, 3: w.Joints} {
		var codes []int64
		for _, list := range all {
			if len(list) != size || list[0] < 0 || list[1] <= list[0] || list[1] > w.Segments-1 {
				return false
			}
			code := 100*list[0] + list[1]
			if size == 3 {
				if list[2] < 0 || list[2] > 1000 {
					return false
				}
				code = 10000*code + list[2]
			}
			codes = append(codes, code)
		}
		sorted := slices.Clone(codes)
		slices.Sort(sorted)
		if !slices.Equal(codes, slices.Compact(sorted)) || len(codes) > 30 {
			return false
		}
	}
	return true
}

// isLayeringByRule goes over crossings and fixed segments.
func isLayeringByRule(w impl.Wiring, layers []int64) bool {
	if int64(len(layers)) != w.Segments {
		return false
	}
	for i, layer := range layers {
		if layer != 0 && layer != 1 || w.Fixed[i] != -1 && w.Fixed[i] != layer {
			return false
		}
	}
	for _, pair := range w.Crossings {
		if layers[pair[0]] == layers[pair[1]] {
			return false
		}
	}
	return true
}

func costByRule(w impl.Wiring, layers []int64) int64 {
	sum := int64(0)
	for _, list := range w.Joints {
		if layers[list[0]] != layers[list[1]] {
			sum += list[2]
		}
	}
	return sum
}

// layersOver calls visit with all layers of so many segments, in order. The
// list is the same memory for all calls.
func layersOver(segments int64, visit func([]int64)) {
	list := make([]int64, segments)
	for code := range int64(1) << segments {
		for i := range list {
			list[i] = code >> (int(segments) - 1 - i) & 1
		}
		visit(list)
	}
}

// bestByRule tries all layers.
func bestByRule(w impl.Wiring) (first []int64, least, count int64) {
	layersOver(w.Segments, func(layers []int64) {
		if !isLayeringByRule(w, layers) {
			return
		}
		cost := costByRule(w, layers)
		if count == 0 || cost < least {
			first, least, count = slices.Clone(layers), cost, 0
		}
		if cost == least {
			count++
		}
	})
	return first, least, count
}

func cross(w impl.Wiring, i, k int64) bool {
	return slices.ContainsFunc(w.Crossings, func(pair []int64) bool {
		return pair[0] == min(i, k) && pair[1] == max(i, k)
	})
}

// groupsByRule gives each segment the name of the least one that is known to be
// in its group, until no crossing tells more.
func groupsByRule(w impl.Wiring) [][]int64 {
	names := counting(0, w.Segments)
	for range names {
		for _, pair := range w.Crossings {
			least := min(names[pair[0]], names[pair[1]])
			names[pair[0]], names[pair[1]] = least, least
		}
	}
	var groups [][]int64
	for name := range w.Segments {
		var group []int64
		for i := range w.Segments {
			if names[i] == name {
				group = append(group, i)
			}
		}
		if group != nil {
			groups = append(groups, group)
		}
	}
	return groups
}

// ringByRule tries all lists of different segments, the shorter ones first,
// each of which crosses the next one.
func ringByRule(w impl.Wiring) []int64 {
	var ring []int64
	var grow func(length int) bool
	grow = func(length int) bool {
		if len(ring) == length {
			return cross(w, ring[length-1], ring[0])
		}
		for next := range w.Segments {
			if slices.Contains(ring, next) || len(ring) > 0 && !cross(w, ring[len(ring)-1], next) {
				continue
			}
			ring = append(ring, next)
			if grow(length) {
				return true
			}
			ring = ring[:len(ring)-1]
		}
		return false
	}
	for length := 3; int64(length) <= w.Segments; length += 2 {
		if grow(length) {
			return ring
		}
	}
	return nil
}

// ringOver has the crossings of a ring of segments.
func ringOver(segments ...int64) [][]int64 {
	var crossings [][]int64
	for i, a := range segments {
		b := segments[(i+1)%len(segments)]
		crossings = append(crossings, []int64{min(a, b), max(a, b)})
	}
	return inOrderOnce(crossings)
}

// inOrderOnce sorts lists in place, and drops equal ones.
func inOrderOnce(all [][]int64) [][]int64 {
	slices.SortFunc(all, slices.Compare)
	return slices.CompactFunc(all, slices.Equal)
}

// diceWiring has a hidden layering in most cases, which all crossings and fixed
// segments agree with. Few costs are different, so that many sums are equal.
func diceWiring(dice *rand.Rand, segments int64) impl.Wiring {
	hidden, agree := int64(dice.Intn(1<<segments)), dice.Intn(4) > 0
	greatest := []int64{1, 2, 9, 1000}[dice.Intn(4)]
	w := wired(segments, "", "", "")
	for _, count := range []int{dice.Intn(31), dice.Intn(31)} {
		for range count {
			if segments < 2 {
				break
			}
			i, k := dice.Int63n(segments), dice.Int63n(segments)
			if i > k {
				i, k = k, i
			}
			if i < k {
				w.Joints = append(w.Joints, []int64{i, k, dice.Int63n(greatest + 1)})
			}
			i = dice.Int63n(k + 1)
			if i < k && (!agree || hidden>>i&1 != hidden>>k&1) {
				w.Crossings = append(w.Crossings, []int64{i, k})
			}
		}
	}
	w.Crossings, w.Joints = inOrderOnce(w.Crossings), inOrderOnce(w.Joints)
	w.Crossings, w.Joints = w.Crossings[:min(30, len(w.Crossings))], w.Joints[:min(30, len(w.Joints))]
	for range dice.Intn(3) {
		if segments > 0 {
			i := dice.Int63n(segments)
			w.Fixed[i] = hidden >> i & 1
			if !agree {
				w.Fixed[i] = dice.Int63n(2)
			}
		}
	}
	return w
}

// severalWirings calls visit with wirings of all numbers of segments.
func severalWirings(count int, visit func(dice *rand.Rand, w impl.Wiring)) {
	dice := rand.New(rand.NewSource(131))
	for i := range count {
		visit(dice, diceWiring(dice, int64(i%15)))
	}
}

// tinyWirings calls visit with all wirings of up to three segments, whose costs
// are 0, 1 or 2, but no two joints of the same segments, and with four segments
// all crossings and fixed segments.
func tinyWirings(visit func(impl.Wiring)) {
	for segments := range int64(4) {
		fixedOver(segments, func(fixed []int64) {
			crossingsOver(segments, func(crossings [][]int64) {
				jointsOver(segments, func(joints [][]int64) {
					visit(impl.Wiring{Segments: segments, Crossings: crossings, Joints: joints, Fixed: fixed})
				})
			})
		})
	}
	dice := rand.New(rand.NewSource(137))
	fixedOver(4, func(fixed []int64) {
		crossingsOver(4, func(crossings [][]int64) {
			w := diceWiring(dice, 4)
			visit(impl.Wiring{Segments: 4, Crossings: crossings, Joints: w.Joints, Fixed: fixed})
		})
	})
}

func crossingsOver(segments int64, visit func([][]int64)) {
	pairs := pairsOf(segments)
	for ones := range 1 << len(pairs) {
		visit(chosenOf(pairs, ones))
	}
}

func fixedOver(segments int64, visit func([]int64)) {
	fixed := nowhereFixed(segments)
	var fill func(i int64)
	fill = func(i int64) {
		if i == segments {
			visit(slices.Clone(fixed))
			return
		}
		for layer := int64(-1); layer <= 1; layer++ {
			fixed[i] = layer
			fill(i + 1)
		}
	}
	fill(0)
}

func jointsOver(segments int64, visit func([][]int64)) {
	pairs := pairsOf(segments)
	var joints [][]int64
	var fill func(i int)
	fill = func(i int) {
		if i == len(pairs) {
			visit(slices.Clone(joints))
			return
		}
		fill(i + 1)
		for cost := range int64(3) {
			joints = append(joints, []int64{pairs[i][0], pairs[i][1], cost})
			fill(i + 1)
			joints = joints[:len(joints)-1]
		}
	}
	fill(0)
}

// dicePath goes in straight runs, between X and Y from 0 to less than side, as
// long as it does not meet itself.
func dicePath(dice *rand.Rand, side int64, runs int) []impl.Point {
	list := []impl.Point{{X: dice.Int63n(side), Y: dice.Int63n(side)}}
	for range runs {
		move := at(1, 0, -1, 0, 0, 1, 0, -1)[dice.Intn(4)]
		for range 1 + dice.Intn(int(side)) {
			end := list[len(list)-1]
			next := impl.Point{X: end.X + move.X, Y: end.Y + move.Y}
			if min(next.X, next.Y) < 0 || max(next.X, next.Y) >= side || slices.Contains(list, next) {
				break
			}
			list = append(list, next)
		}
	}
	return list
}

// pathSegment has the indices of a segment, and its points.
type pathSegment struct {
	indices []int64
	points  []impl.Point
}

// segmentsByRule cuts each path at its turns. It fails if a list is no path of
// two points or more.
func segmentsByRule(paths [][]impl.Point) ([]pathSegment, bool) {
	var all []pathSegment
	for i, list := range paths {
		if !impl.IsPath(list) || len(list) < 2 {
			return nil, false
		}
		corner := int64(0)
		points := list[:1]
		for _, p := range list[1:] {
			points = append(slices.Clone(points), p)
			if p == list[len(list)-1] || slices.Contains(turns(list), p) {
				all = append(all, pathSegment{indices: []int64{int64(i), corner, corner + 1}, points: points})
				corner++
				points = []impl.Point{p}
			}
		}
	}
	return all, len(paths) <= 6
}

// wiringByRule compares all points of all segments.
func wiringByRule(paths [][]impl.Point) (impl.Wiring, bool) {
	segments, ok := segmentsByRule(paths)
	w := impl.Wiring{Segments: int64(len(segments))}
	if !ok || w.Segments > 14 {
		return impl.Wiring{}, false
	}
	for i, a := range segments {
		for k, b := range segments[i+1:] {
			pair := []int64{int64(i), int64(i + 1 + k)}
			meet := slices.ContainsFunc(a.points, func(p impl.Point) bool { return slices.Contains(b.points, p) })
			if a.indices[0] != b.indices[0] && meet {
				w.Crossings = append(w.Crossings, pair)
			}
			if a.indices[0] == b.indices[0] && k == 0 {
				w.Joints = append(w.Joints, append(pair, 1))
			}
		}
		w.Fixed = append(w.Fixed, -1)
	}
	if len(w.Crossings) > 30 {
		return impl.Wiring{}, false
	}
	return w, true
}

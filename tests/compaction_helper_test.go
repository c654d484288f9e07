package tests

import (
	"math/rand"
	"slices"

	"loop.example/g01149/impl"
)

// press has rules that are written as From, To and Apart, with bars between
// them.
func press(parts int64, rules string) impl.Press {
	p := impl.Press{Parts: parts}
	for _, list := range lists(rules) {
		p.Rules = append(p.Rules, impl.Rule{From: list[0], To: list[1], Apart: list[2]})
	}
	return p
}

// rulesInRow has so many rules, each one from the To of the one before, over all
// parts again and again.
func rulesInRow(parts int64, count int, apart int64) []impl.Rule {
	var rules []impl.Rule
	for i := range int64(count) {
		rules = append(rules, impl.Rule{From: i % parts, To: (i + 1) % parts, Apart: apart})
	}
	return rules
}

// chain has the rules from each part to the next one.
func chain(parts, apart int64) impl.Press {
	return impl.Press{Parts: parts, Rules: rulesInRow(parts, int(parts-1), apart)}
}

// ringOfRules has rules that lead over all names and back to the first one.
func ringOfRules(names, aparts []int64) []impl.Rule {
	var rules []impl.Rule
	for i, from := range names {
		rules = append(rules, impl.Rule{From: from, To: names[(i+1)%len(names)], Apart: aparts[i]})
	}
	return rules
}

func isPress(p impl.Press) bool {
	for _, r := range p.Rules {
		if r.From < 0 || r.To < 0 || r.From > p.Parts-1 || r.To > p.Parts-1 || r.From == r.To {
			return false
		}
		if r.Apart < -1000 || r.Apart > 1000 {
			return false
		}
	}
	return p.Parts > 0 && p.Parts <= 16 && len(p.Rules) <= 40
}

func keepsRules(p impl.Press, places []int64) bool {
	if !isPress(p) || int64(len(places)) != p.Parts {
		return false
	}
	for _, n := range places {
		if n < 0 || n > 16000 {
			return false
		}
	}
	for _, r := range p.Rules {
		if places[r.To] < places[r.From]+r.Apart {
			return false
		}
	}
	return true
}

// sums has, for each two parts, the greatest sum of rules that lead from the
// first one to the second one, or a number far below 0.
type sums [][]int64

// sumsByRule lets rules lead over one more part at a time. It fails if rules lead
// from a part to itself with a sum greater than 0.
func sumsByRule(p impl.Press) (sums, bool) {
	var all sums
	for i := range p.Parts {
		all = append(all, slices.Repeat([]int64{-1 << 50}, int(p.Parts)))
		all[i][i] = 0
	}
	for _, r := range p.Rules {
		all[r.From][r.To] = max(all[r.From][r.To], r.Apart)
	}
	for over := range all {
		for i := range all {
			for k := range all {
				all[i][k] = max(all[i][k], all[i][over]+all[over][k])
			}
		}
	}
	for i := range all {
		if all[i][i] > 0 {
			return nil, false
		}
	}
	return all, true
}

// least has the places that follow from some which parts have at least.
func (all sums) least(from []int64) []int64 {
	places := make([]int64, len(all))
	for i := range all {
		for k := range all {
			places[k] = max(places[k], from[i]+all[i][k])
		}
	}
	return places
}

func leastByRule(p impl.Press) ([]int64, bool) {
	all, ok := sumsByRule(p)
	if !ok {
		return nil, false
	}
	return all.least(make([]int64, p.Parts)), true
}

func latestByRule(p impl.Press, width int64) ([]int64, bool) {
	all, ok := sumsByRule(p)
	if !ok || width < 0 || width > 16000 {
		return nil, false
	}
	var places []int64
	for i := range all {
		places = append(places, width-slices.Max(all[i]))
		if places[i] < 0 {
			return nil, false
		}
	}
	return places, true
}

// placesOver calls visit with all places of a press up to a greatest one.
func placesOver(p impl.Press, greatest int64, visit func([]int64)) {
	choicesOver(slices.Repeat([]int64{greatest + 1}, int(p.Parts)), func(places []int64) {
		if keepsRules(p, places) {
			visit(places)
		}
	})
}

func isRisingRing(p impl.Press, ring []int64) bool {
	sum := int64(0)
	from := map[int64]bool{}
	for i, index := range ring {
		r := p.Rules[index]
		next := p.Rules[ring[(i+1)%len(ring)]]
		if r.To != next.From || from[r.From] {
			return false
		}
		from[r.From] = true
		sum += r.Apart
	}
	return len(ring) > 1 && sum > 0
}

// risingByRule tries all lists of rules that lead from one part to the next one,
// the shorter ones first.
func risingByRule(p impl.Press) []int64 {
	var ring []int64
	var grow func(length int) bool
	grow = func(length int) bool {
		if len(ring) == length {
			return isRisingRing(p, ring)
		}
		for i, r := range p.Rules {
			if len(ring) > 0 && p.Rules[ring[len(ring)-1]].To != r.From {
				continue
			}
			if slices.ContainsFunc(ring, func(k int64) bool { return p.Rules[k].From == r.From }) {
				continue
			}
			ring = append(ring, int64(i))
			if grow(length) {
				return true
			}
			ring = ring[:len(ring)-1]
		}
		return false
	}
	for length := 2; int64(length) <= p.Parts; length++ {
		if grow(length) {
			return ring
		}
	}
	return nil
}

func tightByRule(p impl.Press, places []int64) []int64 {
	var tight []int64
	for i, r := range p.Rules {
		if places[r.From]+r.Apart == places[r.To] {
			tight = append(tight, int64(i))
		}
	}
	return tight
}

// criticalByRule tries all lists of different parts along tight rules, the
// shorter ones first. It tells, too, how many are as short.
func criticalByRule(p impl.Press, least []int64) (first []int64, count int) {
	var list []int64
	var grow func(length int)
	grow = func(length int) {
		if len(list) == length {
			if least[list[length-1]] == slices.Max(least) {
				if count == 0 {
					first = slices.Clone(list)
				}
				count++
			}
			return
		}
		for part := range p.Parts {
			if len(list) == 0 && least[part] != 0 || slices.Contains(list, part) {
				continue
			}
			if len(list) > 0 && !isTightBetween(p, least, list[len(list)-1], part) {
				continue
			}
			list = append(list, part)
			grow(length)
			list = list[:len(list)-1]
		}
	}
	for length := 1; count == 0; length++ {
		grow(length)
	}
	return first, count
}

func isTightBetween(p impl.Press, places []int64, from, to int64) bool {
	return slices.ContainsFunc(p.Rules, func(r impl.Rule) bool {
		return r.From == from && r.To == to && places[to]-places[from] == r.Apart
	})
}

// pressesOver calls visit with all presses of some parts and so many rules that
// have one of the aparts.
func pressesOver(parts int64, count int, aparts []int64, visit func(impl.Press)) {
	var all []impl.Rule
	for from := range parts {
		for to := range parts {
			for _, apart := range aparts {
				if from != to {
					all = append(all, impl.Rule{From: from, To: to, Apart: apart})
				}
			}
		}
	}
	choicesOver(slices.Repeat([]int64{int64(len(all))}, count), func(chosen []int64) {
		p := impl.Press{Parts: parts}
		for _, i := range chosen {
			p.Rules = append(p.Rules, all[i])
		}
		visit(p)
	})
}

// tinyPresses calls visit with all presses of up to three parts, with few rules
// whose Apart is from -2 to 2.
func tinyPresses(visit func(impl.Press)) {
	aparts := counting(-2, 5)
	for _, size := range []struct {
		parts int64
		rules int
	}{{1, 0}, {2, 0}, {2, 1}, {2, 2}, {2, 3}, {3, 0}, {3, 1}, {3, 2}} {
		pressesOver(size.parts, size.rules, aparts, visit)
	}
	pressesOver(3, 3, numbers("-1 1 2"), visit)
}

// dicePress keeps hidden places in most cases: then many rules are tight for
// them, and some rules go back.
func dicePress(dice *rand.Rand, parts int64, count int) impl.Press {
	p := impl.Press{Parts: parts}
	greatest := []int64{2, 5, 100, 1000}[dice.Intn(4)]
	kept := dice.Intn(4) > 0
	hidden := make([]int64, parts)
	for i := range hidden {
		hidden[i] = dice.Int63n(greatest + 1)
	}
	for range count {
		if parts < 2 {
			break
		}
		ends := dice.Perm(int(parts))
		r := impl.Rule{From: int64(ends[0]), To: int64(ends[1]), Apart: dice.Int63n(2*greatest+1) - greatest}
		if kept {
			r.Apart = max(-1000, hidden[r.To]-hidden[r.From]-dice.Int63n(3)*dice.Int63n(greatest+1)/2)
		}
		if len(p.Rules) > 0 && dice.Intn(8) == 0 {
			r = p.Rules[dice.Intn(len(p.Rules))]
		}
		p.Rules = append(p.Rules, r)
	}
	return p
}

// severalPresses calls visit with presses of all numbers of parts, with few and
// with many rules.
func severalPresses(count int, visit func(dice *rand.Rand, p impl.Press)) {
	dice := rand.New(rand.NewSource(193))
	for i := range count {
		parts := int64(1 + i%16)
		rules := dice.Intn(int(2*parts) + 1)
		if i%3 == 0 {
			rules = dice.Intn(41)
		}
		visit(dice, dicePress(dice, parts, min(40, rules)))
	}
}

// rectangles makes shapes of their X, Y, Width and Height.
func rectangles(all ...int64) []impl.Shape {
	var list []impl.Shape
	for i := 0; i+3 < len(all); i += 4 {
		list = append(list, impl.Shape{X: all[i], Y: all[i+1], Width: all[i+2], Height: all[i+3]})
	}
	return list
}

// sideBySide has shapes of the same size, so many that are gap apart.
func sideBySide(count, y, width, height, gap int64) []impl.Shape {
	var list []impl.Shape
	for i := range count {
		list = append(list, impl.Shape{X: i * (width + gap), Y: y, Width: width, Height: height})
	}
	return list
}

// haveUnit tells whether there are a number and the next one that two ranges
// have in common.
func haveUnit(a, length, b, other int64) bool {
	for n := a; n < a+length; n++ {
		if n >= b && n+1 <= b+other {
			return true
		}
	}
	return false
}

func faceByRule(a, b impl.Shape) bool { return haveUnit(a.Y, a.Height, b.Y, b.Height) }

func overlapByRule(a, b impl.Shape) bool {
	return faceByRule(a, b) && haveUnit(a.X, a.Width, b.X, b.Width)
}

func areShapesByRule(list []impl.Shape) bool {
	if len(list) == 0 || len(list) > 12 {
		return false
	}
	for _, s := range list {
		if min(s.X, s.Y) < 0 || min(s.Width, s.Height) < 1 || max(s.X, s.Y) > 1000 || max(s.Width, s.Height) > 1000 {
			return false
		}
	}
	return !haveOverlap(list)
}

func haveOverlap(list []impl.Shape) bool {
	for i, a := range list {
		if slices.ContainsFunc(list[i+1:], func(b impl.Shape) bool { return overlapByRule(a, b) }) {
			return true
		}
	}
	return false
}

// shapeRulesByRule asks for each pair of shapes which one is at the left.
func shapeRulesByRule(list []impl.Shape, apart int64) (impl.Press, bool) {
	if !areShapesByRule(list) || apart < 0 || apart > 1000 {
		return impl.Press{}, false
	}
	p := impl.Press{Parts: int64(len(list))}
	for code := range len(list) * len(list) {
		i, k := code/len(list), code%len(list)
		if faceByRule(list[i], list[k]) && list[i].X < list[k].X {
			p.Rules = append(p.Rules, impl.Rule{From: int64(i), To: int64(k), Apart: list[i].Width + apart})
		}
	}
	if !isPress(p) {
		return impl.Press{}, false
	}
	return p, true
}

// pressByRule moves the shapes to the left one after another, in the order of
// their X, each as far as those before it let it.
func pressByRule(list []impl.Shape, apart int64) ([]impl.Shape, bool) {
	if _, ok := shapeRulesByRule(list, apart); !ok {
		return nil, false
	}
	order := counting(0, int64(len(list)))
	slices.SortFunc(order, func(i, k int64) int { return int(list[i].X - list[k].X) })
	moved := slices.Clone(list)
	for n, k := range order {
		moved[k].X = 0
		for _, i := range order[:n] {
			if faceByRule(list[i], list[k]) {
				moved[k].X = max(moved[k].X, moved[i].X+list[i].Width+apart)
			}
		}
	}
	return moved, true
}

// diceShapes has up to so many shapes that do not overlap, which begin in a box,
// most of them small, and some that are as large as the box.
func diceShapes(dice *rand.Rand, count int, width, height int64) []impl.Shape {
	var list []impl.Shape
	for range 4 * count {
		s := impl.Shape{X: dice.Int63n(width), Y: dice.Int63n(height), Width: 1 + dice.Int63n(1+width/6), Height: 1 + dice.Int63n(1+height/4)}
		switch dice.Intn(8) {
		case 0:
			s.Width = 1 + dice.Int63n(width)
		case 1:
			s.Height = 1 + dice.Int63n(height)
		case 2:
			if len(list) > 0 { // one that touches another one
				other := list[dice.Intn(len(list))]
				s.X, s.Y = other.X+other.Width, other.Y+dice.Int63n(2)*other.Height
			}
		}
		if max(s.X, s.Y, s.Width, s.Height) <= 1000 && len(list) < count && !haveOverlap(append(slices.Clone(list), s)) {
			list = append(list, s)
		}
	}
	return list
}

// severalShapes calls visit with lists of shapes in small and in large boxes, and
// in low ones, where many of them face one another.
func severalShapes(count int, visit func(dice *rand.Rand, list []impl.Shape)) {
	dice := rand.New(rand.NewSource(197))
	boxes := [][2]int64{{3, 3}, {6, 6}, {12, 12}, {30, 30}, {1001, 1001}, {90, 1}, {200, 2}}
	for i := range count {
		box := boxes[i%len(boxes)]
		visit(dice, diceShapes(dice, 1+i%12, box[0], box[1]))
	}
}

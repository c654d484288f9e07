package tests

import (
	"math/rand"
	"slices"

	"loop.example/g01149/impl"
)

// bundle has rows that are written with bars between them.
func bundle(rows string) impl.Bundle { return impl.Bundle{Weights: lists(rows)} }

// coupled has so many wires with the weights of 0 and 1, 0 and 2, and so on, then
// those of 1 and 2, 1 and 3, and so on.
func coupled(wires int64, weights string) impl.Bundle {
	b := evenBundle(wires, 0)
	rest := numbers(weights)
	for i := range wires {
		for k := i + 1; k < wires; k++ {
			setWeight(b, i, k, rest[0])
			rest = rest[1:]
		}
	}
	return b
}

func setWeight(b impl.Bundle, i, k, weight int64) {
	b.Weights[i][k] = weight
	b.Weights[k][i] = weight
}

// evenBundle has the same weight for each two wires.
func evenBundle(wires, weight int64) impl.Bundle {
	var b impl.Bundle
	for i := range wires {
		b.Weights = append(b.Weights, slices.Repeat([]int64{weight}, int(wires)))
		b.Weights[i][i] = 0
	}
	return b
}

func copyOf(b impl.Bundle) impl.Bundle {
	var other impl.Bundle
	for _, row := range b.Weights {
		other.Weights = append(other.Weights, slices.Clone(row))
	}
	return other
}

func wiresIn(b impl.Bundle) int64 { return int64(len(b.Weights)) }

func isBundle(b impl.Bundle) bool {
	wires := len(b.Weights)
	for _, row := range b.Weights {
		if len(row) != wires {
			return false
		}
	}
	for i := range wires {
		for k := range wires {
			w := b.Weights[i][k]
			if w < 0 || w > 1000 || w != b.Weights[k][i] || i == k && w > 0 {
				return false
			}
		}
	}
	return wires > 0 && wires < 10
}

func isOrderByRule(b impl.Bundle, order []int64) bool {
	return isBundle(b) && slices.Equal(slices.Sorted(slices.Values(order)), counting(0, wiresIn(b)))
}

func areShields(b impl.Bundle, shields []int64) bool {
	for _, k := range shields {
		if k < 1 || k > wiresIn(b)-1 {
			return false
		}
	}
	return slices.Equal(shields, slices.Compact(slices.Sorted(slices.Values(shields))))
}

func isLayoutByRule(b impl.Bundle, order, shields []int64) bool {
	return isOrderByRule(b, order) && areShields(b, shields)
}

// weightsOfNeighbours looks at all pairs of places.
func weightsOfNeighbours(b impl.Bundle, order, shields []int64) []int64 {
	var weights []int64
	for i, wire := range order {
		for k, other := range order {
			if i-k == 1 && !slices.Contains(shields, int64(i)) {
				weights = append(weights, b.Weights[wire][other])
			}
		}
	}
	return weights
}

func total(list []int64) int64 {
	sum := int64(0)
	for _, n := range list {
		sum += n
	}
	return sum
}

func couplingByRule(b impl.Bundle, order, shields []int64) int64 {
	return total(weightsOfNeighbours(b, order, shields))
}

// noiseByRule looks at both sides of each wire.
func noiseByRule(b impl.Bundle, order, shields []int64) []int64 {
	var noise []int64
	for wire, weights := range b.Weights {
		place := int64(slices.Index(order, int64(wire)))
		sum := int64(0)
		if place > 0 && !slices.Contains(shields, place) {
			sum += weights[order[place-1]]
		}
		if place < wiresIn(b)-1 && !slices.Contains(shields, place+1) {
			sum += weights[order[place+1]]
		}
		noise = append(noise, sum)
	}
	return noise
}

// ordersOver calls visit with all orders of so many wires, each of which is the
// next one behind the order before. The list is the same memory for all calls.
func ordersOver(wires int64, visit func([]int64)) {
	order := counting(0, wires)
	for {
		visit(order)
		i := len(order) - 2
		for i >= 0 && order[i] > order[i+1] {
			i--
		}
		if i < 0 {
			return
		}
		k := len(order) - 1
		for order[k] < order[i] {
			k--
		}
		order[i], order[k] = order[k], order[i]
		slices.Reverse(order[i+1:])
	}
}

// shieldsOver calls visit with all sets of so many shields in ascending order.
func shieldsOver(wires, count int64, visit func([]int64)) {
	sets := rowsIn(wires-1, count)
	slices.SortFunc(sets, slices.Compare)
	for _, set := range sets {
		visit(moved(set, 1))
	}
}

// allShields has the sets of all numbers of shields.
func allShields(wires int64, visit func([]int64)) {
	for count := range wires {
		shieldsOver(wires, count, visit)
	}
}

// ranking has the first one of the lists with the least value, and how many of
// them have it.
type ranking struct {
	first  []int64
	least  int64
	shared int64
}

// add takes the lists in ascending order.
func (r *ranking) add(list []int64, value int64) {
	if r.shared == 0 || value < r.least {
		*r = ranking{first: slices.Clone(list), least: value}
	}
	if value == r.least {
		r.shared++
	}
}

func bestShieldsByRule(b impl.Bundle, order []int64, count int64) ranking {
	var best ranking
	shieldsOver(wiresIn(b), count, func(shields []int64) {
		best.add(shields, couplingByRule(b, order, shields))
	})
	return best
}

// census is what all orders of a bundle tell.
type census struct {
	best    []ranking // by the number of shields
	between map[[2]int64]*ranking
	quiet   ranking
	counts  map[int64]int64 // by coupling
}

// takeCensus leaves the greatest weights out for shields.
func takeCensus(b impl.Bundle) census {
	wires := wiresIn(b)
	all := census{best: make([]ranking, wires), between: map[[2]int64]*ranking{}, counts: map[int64]int64{}}
	ordersOver(wires, func(order []int64) {
		weights := weightsBetween(b, order)
		all.quiet.add(order, greatestNoise(weights))
		slices.Sort(weights)
		for count := range wires {
			all.best[count].add(order, total(weights[:wires-1-count]))
		}
		both := [2]int64{order[0], order[wires-1]}
		if all.between[both] == nil {
			all.between[both] = &ranking{}
		}
		all.between[both].add(order, total(weights))
		all.counts[total(weights)]++
	})
	return all
}

// weightsBetween has the weight of each wire but the last one and the next one.
func weightsBetween(b impl.Bundle, order []int64) []int64 {
	weights := make([]int64, 0, len(order))
	for i := 1; i < len(order); i++ {
		weights = append(weights, b.Weights[order[i-1]][order[i]])
	}
	return weights
}

// greatestNoise is that of a wire with one of some weights in a row, or of one
// between two of them.
func greatestNoise(weights []int64) int64 {
	greatest := int64(0)
	for i, w := range weights {
		if i > 0 {
			w += weights[i-1]
		}
		greatest = max(greatest, w)
	}
	return greatest
}

// treeByAll tries all trees.
func treeByAll(b impl.Bundle) int64 {
	var all ranking
	allSpanningTrees(len(b.Weights), func(pairs [][]int64) {
		sum := int64(0)
		for _, pair := range pairs {
			sum += b.Weights[pair[0]][pair[1]]
		}
		all.add(nil, sum)
	})
	return all.least
}

// treeByWeights joins parts of wires over the pairs with the least weights.
func treeByWeights(b impl.Bundle) int64 {
	part := counting(0, wiresIn(b))
	sum := int64(0)
	for weight := range int64(1001) {
		for i := range part {
			for k := range part {
				if b.Weights[i][k] != weight || part[i] == part[k] {
					continue
				}
				old := part[i]
				for j := range part {
					if part[j] == old {
						part[j] = part[k]
					}
				}
				sum += weight
			}
		}
	}
	return sum
}

// exchanged has the wires at a place and behind it exchanged.
func exchanged(order []int64, place int) []int64 {
	return slices.Concat(order[:place], []int64{order[place+1], order[place]}, order[place+2:])
}

func gainsByRule(b impl.Bundle, order []int64) []int64 {
	var gains []int64
	for place := range len(order) - 1 {
		gains = append(gains, couplingByRule(b, order, nil)-couplingByRule(b, exchanged(order, place), nil))
	}
	return gains
}

// settleByRule tells also how many exchanges there are, and at how many of them
// several places have the greatest gain.
func settleByRule(b impl.Bundle, order []int64) (settled []int64, exchanges, several int) {
	settled = slices.Clone(order)
	for {
		gains := gainsByRule(b, settled)
		if len(gains) == 0 || slices.Max(gains) <= 0 {
			return settled, exchanges, several
		}
		place := slices.Index(gains, slices.Max(gains))
		if slices.Contains(gains[place+1:], gains[place]) {
			several++
		}
		settled = exchanged(settled, place)
		exchanges++
	}
}

// bundlesOver calls visit with all bundles of so many wires that have the weights
// from 0 to a greatest one.
func bundlesOver(wires, greatest int64, visit func(impl.Bundle)) {
	pairs := wires * (wires - 1) / 2
	choicesOver(slices.Repeat([]int64{greatest + 1}, int(pairs)), func(weights []int64) {
		b := evenBundle(wires, 0)
		at := 0
		for i := range wires {
			for k := i + 1; k < wires; k++ {
				setWeight(b, i, k, weights[at])
				at++
			}
		}
		visit(b)
	})
}

// tinyBundles calls visit with all bundles of few wires and few weights.
func tinyBundles(visit func(impl.Bundle)) {
	bundlesOver(1, 0, visit)
	bundlesOver(2, 6, visit)
	bundlesOver(3, 4, visit)
	bundlesOver(4, 2, visit)
	bundlesOver(5, 1, visit)
}

// diceBundle has many weights that are the same, or few, or many of weight 0.
func diceBundle(dice *rand.Rand, wires int64) impl.Bundle {
	b := evenBundle(wires, 0)
	greatest := []int64{1, 2, 4, 9, 100, 1000}[dice.Intn(6)]
	zeros := dice.Intn(4)
	for i := range wires {
		for k := range i {
			if dice.Intn(6) >= zeros {
				setWeight(b, i, k, dice.Int63n(greatest+1))
			}
		}
	}
	return b
}

// farBundle has wires with places: the further they are apart, the greater is
// their weight, or the less.
func farBundle(dice *rand.Rand, wires int64, less bool) impl.Bundle {
	b := evenBundle(wires, 0)
	places := diceSegments(dice, 1000, int(wires))
	for i := range wires {
		for k := range i {
			weight := absoluteOf(places[i] - places[k])
			if less {
				weight = 1000 - weight
			}
			setWeight(b, i, k, weight)
		}
	}
	return b
}

// severalBundles calls visit with bundles of up to so many wires.
func severalBundles(count int, most int64, visit func(dice *rand.Rand, b impl.Bundle)) {
	dice := rand.New(rand.NewSource(233))
	for i := range int64(count) {
		wires := 1 + i%most
		if i%5 == 0 {
			visit(dice, farBundle(dice, wires, i%10 == 0))
			continue
		}
		visit(dice, diceBundle(dice, wires))
	}
}

// diceOrder is any order of the wires of a bundle.
func diceOrder(dice *rand.Rand, b impl.Bundle) []int64 {
	return diceSegments(dice, len(b.Weights), len(b.Weights))
}

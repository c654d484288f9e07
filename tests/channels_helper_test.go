package tests

import (
	"math/rand"
	"slices"
	"strconv"
	"strings"

	"loop.example/g01149/impl"
)

// channel has rows that are written with blanks between their numbers.
func channel(top, bottom string) impl.Channel {
	return impl.Channel{Top: numbers(top), Bottom: numbers(bottom)}
}

func numbers(text string) []int64 {
	var row []int64
	for _, word := range strings.Fields(text) {
		n, err := strconv.ParseInt(word, 10, 64)
		if err != nil {
			panic(err)
		}
		row = append(row, n)
	}
	return row
}

// lists has lists that are written with bars between them.
func lists(text string) [][]int64 {
	if text == "" {
		return nil
	}
	var all [][]int64
	for part := range strings.SplitSeq(text, "|") {
		all = append(all, numbers(part))
	}
	return all
}

// channelsIn calls visit with all channels of so many columns with the nets
// from 1 on, also with those that are not valid.
func channelsIn(columns, nets int, visit func(impl.Channel)) {
	rows := make([]int64, 2*columns)
	var fill func(i int)
	fill = func(i int) {
		if i == len(rows) {
			visit(impl.Channel{Top: slices.Clone(rows[:columns]), Bottom: slices.Clone(rows[columns:])})
			return
		}
		for net := range int64(nets + 1) {
			rows[i] = net
			fill(i + 1)
		}
	}
	fill(0)
}

// tinyChannels calls visit with all valid channels of few columns and nets.
func tinyChannels(visit func(impl.Channel)) {
	for _, size := range [][2]int{{1, 12}, {1, 2}, {2, 2}, {3, 2}, {4, 2}, {2, 3}, {3, 3}} {
		channelsIn(size[0], size[1], func(c impl.Channel) {
			if isChannel(c) {
				visit(c)
			}
		})
	}
}

// wideChannels calls visit with valid channels of all numbers of columns and
// of nets, with many and with few pins.
func wideChannels(count int, visit func(impl.Channel)) {
	dice := rand.New(rand.NewSource(23))
	for range count {
		visit(diceChannel(dice, 1+dice.Intn(impl.MaxColumns), 1+dice.Intn(impl.MaxNets)))
	}
}

// smallChannels is like wideChannels, but no channel has more nets than it
// is told, so that all tracks of a channel can be tried.
func smallChannels(count, nets int, visit func(impl.Channel)) {
	dice := rand.New(rand.NewSource(29))
	for range count {
		visit(diceChannel(dice, 2+dice.Intn(3*nets), nets))
	}
}

// ringChannels calls visit with channels that have cycles of all lengths,
// and a few other columns that make some of them shorter.
func ringChannels(count int, visit func(impl.Channel)) {
	dice := rand.New(rand.NewSource(31))
	for i := range count {
		length := 2 + i%(impl.MaxNets-1)
		c := diceChannel(dice, 1+dice.Intn(6), 1+dice.Intn(impl.MaxNets))
		names := dice.Perm(impl.MaxNets)[:length]
		for j, name := range names {
			c.Top = append(c.Top, int64(1+name))
			c.Bottom = append(c.Bottom, int64(1+names[(j+1)%length]))
		}
		visit(c)
	}
}

// sparseChannels calls visit with channels of many nets with two or three
// pins each, so that their spans are short and few are on cycles.
func sparseChannels(count int, visit func(impl.Channel)) {
	dice := rand.New(rand.NewSource(37))
	for range count {
		places := dice.Perm(2 * impl.MaxColumns)
		rows := make([]int64, 2*impl.MaxColumns)
		for net := range int64(impl.MaxNets) {
			first := places[net]
			rows[first] = net + 1
			near := (first + 1 + dice.Intn(9)) % len(rows)
			rows[near] = net + 1
		}
		c := impl.Channel{Top: rows[:impl.MaxColumns], Bottom: rows[impl.MaxColumns:]}
		dropSingles(c)
		visit(c)
	}
}

func dropSingles(c impl.Channel) {
	for net := int64(1); net <= impl.MaxNets; net++ {
		if pinsWith(c, net) == 1 {
			drop(c.Top, net)
			drop(c.Bottom, net)
		}
	}
}

func diceChannel(dice *rand.Rand, columns, nets int) impl.Channel {
	names := dice.Perm(impl.MaxNets)[:nets]
	above, below := dice.Intn(5), dice.Intn(5)
	c := impl.Channel{Top: make([]int64, columns), Bottom: make([]int64, columns)}
	for i := range columns {
		if dice.Intn(5) <= above {
			c.Top[i] = int64(1 + names[dice.Intn(nets)])
		}
		if dice.Intn(5) <= below {
			c.Bottom[i] = int64(1 + names[dice.Intn(nets)])
		}
	}
	dropSingles(c)
	return c
}

func drop(row []int64, net int64) {
	for i := range row {
		if row[i] == net {
			row[i] = 0
		}
	}
}

func pinsWith(c impl.Channel, net int64) int {
	count := 0
	for _, n := range slices.Concat(c.Top, c.Bottom) {
		if n == net {
			count++
		}
	}
	return count
}

func columnsWith(c impl.Channel, net int64) []int64 {
	var columns []int64
	for i := range c.Top {
		if c.Top[i] == net || c.Bottom[i] == net {
			columns = append(columns, int64(i))
		}
	}
	return columns
}

func isChannel(c impl.Channel) bool {
	if len(c.Top) != len(c.Bottom) || len(c.Top) == 0 || len(c.Top) > 24 {
		return false
	}
	for _, net := range slices.Concat(c.Top, c.Bottom) {
		if net < 0 || net > 12 || net > 0 && pinsWith(c, net) < 2 {
			return false
		}
	}
	return true
}

// netsIn returns the nets with pins in more than one column.
func netsIn(c impl.Channel) []int64 {
	var nets []int64
	for net := int64(1); net <= 12; net++ {
		if len(columnsWith(c, net)) > 1 {
			nets = append(nets, net)
		}
	}
	return nets
}

// wholePieces returns for each net itself, its first and its last column.
func wholePieces(c impl.Channel) map[int64][]int64 {
	pieces := map[int64][]int64{}
	for _, net := range netsIn(c) {
		columns := columnsWith(c, net)
		pieces[net] = []int64{net, columns[0], columns[len(columns)-1]}
	}
	return pieces
}

// numberedPieces returns the pieces of all nets by their index.
func numberedPieces(c impl.Channel) map[int64][]int64 {
	pieces := map[int64][]int64{}
	for _, net := range netsIn(c) {
		columns := columnsWith(c, net)
		for i := 1; i < len(columns); i++ {
			pieces[int64(len(pieces))] = []int64{net, columns[i-1], columns[i]}
		}
	}
	return pieces
}

func keysOf(pieces map[int64][]int64) []int64 {
	var keys []int64
	for key := range pieces {
		keys = append(keys, key)
	}
	slices.Sort(keys)
	return keys
}

// isAbove reports whether a column that both pieces have demands the order.
func isAbove(c impl.Channel, a, b []int64) bool {
	for i := range c.Top {
		column := int64(i)
		inBoth := column >= a[1] && column <= a[2] && column >= b[1] && column <= b[2]
		if inBoth && a[0] != b[0] && c.Top[i] == a[0] && c.Bottom[i] == b[0] {
			return true
		}
	}
	return false
}

func haveColumn(a, b []int64) bool {
	for column := range int64(24) {
		if column >= a[1] && column <= a[2] && column >= b[1] && column <= b[2] {
			return true
		}
	}
	return false
}

// keepRules reports whether tracks have each piece once, and in order.
func keepRules(c impl.Channel, pieces map[int64][]int64, tracks [][]int64) bool {
	trackOf := map[int64]int{}
	for i, track := range tracks {
		for j, key := range track {
			_, twice := trackOf[key]
			if pieces[key] == nil || twice || j > 0 && key < track[j-1] {
				return false
			}
			trackOf[key] = i
		}
		if len(track) == 0 {
			return false
		}
	}
	if len(trackOf) != len(pieces) {
		return false
	}
	for i, a := range pieces {
		for j, b := range pieces {
			together := trackOf[i] == trackOf[j] && a[0] != b[0] && haveColumn(a, b)
			if together || isAbove(c, a, b) && trackOf[i] >= trackOf[j] {
				return false
			}
		}
	}
	return true
}

// allTracks calls visit with all lists of sets that have each key once.
func allTracks(keys []int64, visit func([][]int64)) {
	var tracks [][]int64
	var lay func(left []int64)
	lay = func(left []int64) {
		if len(left) == 0 {
			visit(tracks)
			return
		}
		for mask := 1; mask < 1<<len(left); mask++ {
			var track, rest []int64
			for i, key := range left {
				if mask>>i&1 == 1 {
					track = append(track, key)
				} else {
					rest = append(rest, key)
				}
			}
			tracks = append(tracks, track)
			lay(rest)
			tracks = tracks[:len(tracks)-1]
		}
	}
	lay(keys)
}

// fewestOfAll tries all tracks.
func fewestOfAll(c impl.Channel, pieces map[int64][]int64) ([][]int64, bool) {
	var best [][]int64
	found := false
	allTracks(keysOf(pieces), func(tracks [][]int64) {
		if found && len(tracks) > len(best) || !keepRules(c, pieces, tracks) {
			return
		}
		if !found || len(tracks) < len(best) || slices.CompareFunc(tracks, best, slices.Compare) < 0 {
			best, found = slices.Clone(tracks), true
		}
	})
	return best, found
}

// fitInto reports whether so many tracks can hold the pieces. It gives each
// of them a track in turn.
func fitInto(c impl.Channel, pieces map[int64][]int64, tracks int) bool {
	keys := keysOf(pieces)
	trackOf := map[int64]int{}
	var lay func(i int) bool
	lay = func(i int) bool {
		if i == len(keys) {
			return true
		}
		for track := range tracks {
			trackOf[keys[i]] = track
			if agrees(c, pieces, trackOf, keys[:i], keys[i]) && lay(i+1) {
				return true
			}
		}
		return false
	}
	return lay(0)
}

func agrees(c impl.Channel, pieces map[int64][]int64, trackOf map[int64]int, laid []int64, key int64) bool {
	for _, other := range laid {
		a, b := pieces[other], pieces[key]
		switch {
		case isAbove(c, a, b) && trackOf[other] >= trackOf[key],
			isAbove(c, b, a) && trackOf[key] >= trackOf[other],
			a[0] != b[0] && trackOf[key] == trackOf[other] && haveColumn(a, b):
			return false
		}
	}
	return true
}

// haveRing reports whether a piece must be above itself, by way of others.
func haveRing(c impl.Channel, pieces map[int64][]int64) bool {
	above := map[[2]int64]bool{}
	keys := keysOf(pieces)
	for _, i := range keys {
		for _, j := range keys {
			above[[2]int64{i, j}] = isAbove(c, pieces[i], pieces[j])
		}
	}
	for _, k := range keys {
		for _, i := range keys {
			for _, j := range keys {
				if above[[2]int64{i, k}] && above[[2]int64{k, j}] {
					above[[2]int64{i, j}] = true
				}
			}
		}
	}
	return slices.ContainsFunc(keys, func(k int64) bool { return above[[2]int64{k, k}] })
}

// chainsIn calls visit with each list of different nets in which each one
// must be above the next one.
func chainsIn(c impl.Channel, visit func(chain []int64)) {
	nets := netsIn(c)
	var chain []int64
	var grow func()
	grow = func() {
		visit(chain)
		for _, net := range nets {
			if slices.Contains(chain, net) || len(chain) > 0 && !pinsAbove(c, chain[len(chain)-1], net) {
				continue
			}
			chain = append(chain, net)
			grow()
			chain = chain[:len(chain)-1]
		}
	}
	grow()
}

func pinsAbove(c impl.Channel, a, b int64) bool {
	for i := range c.Top {
		if a != b && a > 0 && b > 0 && c.Top[i] == a && c.Bottom[i] == b {
			return true
		}
	}
	return false
}

// leastCycle returns the first of the shortest ones of all cycles, and else
// the length of the longest chain.
func leastCycle(c impl.Channel) (cycle []int64, chain int) {
	chainsIn(c, func(list []int64) {
		chain = max(chain, len(list))
		if len(list) < 2 || !pinsAbove(c, list[len(list)-1], list[0]) {
			return
		}
		if cycle == nil || len(list) < len(cycle) || len(list) == len(cycle) && slices.Compare(list, cycle) < 0 {
			cycle = slices.Clone(list)
		}
	})
	return cycle, chain
}

// densityIn counts the nets at a column.
func densityIn(c impl.Channel, column int64) int64 {
	count := int64(0)
	for _, p := range wholePieces(c) {
		if column >= p[1] && column <= p[2] {
			count++
		}
	}
	return count
}

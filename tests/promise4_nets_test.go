package tests

import (
	"fmt"
	"math"
	"slices"
	"testing"

	"loop.example/g01149/impl"
)

// checkNoChannel checks that c is no channel, and that all functions with a
// channel fail then.
func checkNoChannel(t *testing.T, c impl.Channel) {
	t.Helper()
	what := "no channel " + brief(c)
	same(t, what, results(impl.ValidChannel(c), impl.MustBeAbove(c, 1, 2), impl.MustBeAbove(c, 2, 1)), results(false, false, false))
	for _, tracks := range [][][]int64{nil, lists("1"), lists("1|2"), lists("0"), lists("0|1")} {
		same(t, "tracks of "+what, results(impl.IsRouting(c, tracks), impl.IsPieceRouting(c, tracks)), results(false, false))
	}
	for net := range int64(3) {
		first, last, ok := impl.SpanOf(c, net)
		same(t, "span of "+what, results(first, last, ok), results(0, 0, false))
		n, ok := impl.DensityAt(c, net)
		same(t, "density of "+what, results(n, ok), results(0, false))
	}
	for i, of := range []func(impl.Channel) (int64, bool){impl.DensityOf, impl.LongestChain} {
		n, ok := of(c)
		same(t, fmt.Sprint("number ", i, " of ", what), results(n, ok), results(0, false))
	}
	for i, of := range []func(impl.Channel) ([]int64, bool){impl.NetsOf, impl.CycleOf} {
		list, ok := of(c)
		same(t, fmt.Sprint("list ", i, " of ", what), results(list, ok), results(numbers(""), false))
	}
	for i, of := range []func(impl.Channel) ([][]int64, bool){impl.LeftEdge, impl.FewestTracks, impl.PiecesOf, impl.FewestWithDoglegs} {
		all, ok := of(c)
		same(t, fmt.Sprint("lists ", i, " of ", what), results(all, ok), results(lists(""), false))
	}
	text, ok := impl.ChannelText(c)
	same(t, "text of "+what, results(text, ok), results("", false))
}

func TestPromise4ValidChannel(t *testing.T) {
	valid := 0
	check := func(c impl.Channel) {
		if isChannel(c) {
			valid++
			same(t, "channel "+brief(c), impl.ValidChannel(c), true)
		} else {
			checkNoChannel(t, c)
		}
	}
	channelsIn(1, 3, check)
	channelsIn(2, 3, check)
	channelsIn(3, 3, check)
	if valid < 50 {
		t.Errorf("only %d channels are valid", valid)
	}
	wideChannels(500, check)
}

func TestPromise4RowLengths(t *testing.T) {
	for top := range int64(27) {
		for bottom := range int64(27) {
			c := impl.Channel{Top: slices.Repeat([]int64{1}, int(top)), Bottom: slices.Repeat([]int64{2}, int(bottom))}
			if top == bottom && top >= 2 && top <= impl.MaxColumns {
				same(t, fmt.Sprint(top, " columns"), impl.ValidChannel(c), true)
			} else {
				checkNoChannel(t, c)
			}
			empty := impl.Channel{Top: make([]int64, top), Bottom: make([]int64, bottom)}
			if top == bottom && top >= 1 && top <= impl.MaxColumns {
				same(t, fmt.Sprint(top, " empty columns"), impl.ValidChannel(empty), true)
			} else {
				checkNoChannel(t, empty)
			}
		}
	}
	checkNoChannel(t, impl.Channel{Top: nil, Bottom: numbers("1 1")})
	checkNoChannel(t, impl.Channel{Top: numbers("1 1"), Bottom: nil})
}

func TestPromise4Numbers(t *testing.T) {
	for n := int64(-2); n <= 15; n++ {
		for _, c := range []impl.Channel{
			{Top: []int64{n, n}, Bottom: []int64{0, 0}}, {Top: []int64{0, 0}, Bottom: []int64{n, n}}, {Top: []int64{0, n}, Bottom: []int64{n, 0}},
			{Top: []int64{n}, Bottom: []int64{n}}, {Top: []int64{1, 1, n, 0}, Bottom: []int64{0, n, n, 0}},
		} {
			if n >= 0 && n <= impl.MaxNets {
				same(t, "channel "+brief(c), impl.ValidChannel(c), true)
			} else {
				checkNoChannel(t, c)
			}
		}
		// Just one pin, and one more at each place, with which there are two.
		one := impl.Channel{Top: []int64{1, 1, n, 0}, Bottom: []int64{0, 2, 2, 0}}
		same(t, "one pin "+brief(one), impl.ValidChannel(one), n >= 0 && n <= 2)
		if !impl.ValidChannel(one) {
			checkNoChannel(t, one)
		}
	}
	for _, n := range []int64{math.MinInt64, math.MinInt64 + 1, math.MaxInt64, math.MaxInt64 - 1, 64, 65, 256, 257, 1 << 32} {
		checkNoChannel(t, impl.Channel{Top: []int64{1, n, 1}, Bottom: []int64{2, n, 2}})
		checkNoChannel(t, impl.Channel{Top: []int64{n, 1, 1}, Bottom: []int64{n, 2, 2}})
		checkNoChannel(t, impl.Channel{Top: []int64{2, 2, 1}, Bottom: []int64{0, 1, n}})
	}
	all := impl.Channel{Top: counting(1, 12), Bottom: counting(1, 12)}
	same(t, "all nets", impl.ValidChannel(all), true)
	for i := range all.Top {
		c := impl.Channel{Top: slices.Clone(all.Top), Bottom: all.Bottom}
		c.Top[i] = 0
		checkNoChannel(t, c)
	}
}

// checkNets compares all that is told of nets and columns with their pins.
func checkNets(t *testing.T, c impl.Channel) {
	t.Helper()
	what := brief(c)
	nets, ok := impl.NetsOf(c)
	same(t, "nets of "+what, results(nets, ok), results(netsIn(c), true))
	for net := int64(-1); net <= 14; net++ {
		first, last, ok := impl.SpanOf(c, net)
		if columns := columnsWith(c, net); net >= 1 && len(columns) > 0 {
			same(t, fmt.Sprint("span of ", net, " in ", what), results(first, last, ok), results(columns[0], columns[len(columns)-1], true))
		} else {
			same(t, fmt.Sprint("no span of ", net, " in ", what), results(first, last, ok), results(0, 0, false))
		}
	}
	most := int64(0)
	for column := int64(-1); column <= 25; column++ {
		n, ok := impl.DensityAt(c, column)
		if column >= 0 && column < int64(len(c.Top)) {
			same(t, fmt.Sprint("density at ", column, " of ", what), results(n, ok), results(densityIn(c, column), true))
			most = max(most, n)
		} else {
			same(t, fmt.Sprint("no density at ", column, " of ", what), results(n, ok), results(0, false))
		}
	}
	n, ok := impl.DensityOf(c)
	same(t, "density of "+what, results(n, ok), results(most, true))
}

func TestPromise4Nets(t *testing.T) {
	check := func(c impl.Channel) { checkNets(t, c) }
	tinyChannels(check)
	wideChannels(1000, check)
}

func TestPromise4NetsByHand(t *testing.T) {
	for _, row := range []struct {
		top, bottom string
		nets        string
		density     string // at each column
	}{
		{"0", "0", "", "0"},
		{"1", "1", "", "0"},
		{"12", "12", "", "0"},
		{"1 2 1", "2 0 0", "1 2", "2 2 1"},
		{"12 12", "0 0", "12", "1 1"},
		{"1 0", "0 1", "1", "1 1"},
		{"3 0 0 3", "0 5 5 0", "3 5", "1 2 2 1"},
		{"3 5 0 3", "0 5 0 0", "3", "1 1 1 1"}, // the net 5 needs no track
		{"0 4 4 0", "0 4 0 0", "4", "0 1 1 0"},
		{"1 1 0 2 2", "0 0 0 0 0", "1 2", "1 1 0 1 1"},
		{"1 1 2 2 3 0", "0 0 0 0 0 3", "1 2 3", "1 1 1 1 1 1"},
	} {
		c := channel(row.top, row.bottom)
		nets, ok := impl.NetsOf(c)
		same(t, "nets of "+brief(c), results(nets, ok), results(numbers(row.nets), true))
		most := int64(0)
		for i, want := range numbers(row.density) {
			n, ok := impl.DensityAt(c, int64(i))
			same(t, fmt.Sprint("density at ", i, " of ", c), results(n, ok), results(want, true))
			most = max(most, want)
		}
		n, ok := impl.DensityOf(c)
		same(t, "density of "+brief(c), results(n, ok), results(most, true))
	}
	first, last, ok := impl.SpanOf(channel("3 5 0 3", "0 5 0 0"), 5)
	same(t, "span in one column", results(first, last, ok), results(1, 1, true))
	wide := impl.Channel{Top: make([]int64, 24), Bottom: make([]int64, 24)}
	wide.Top[0], wide.Bottom[23] = 12, 12
	first, last, ok = impl.SpanOf(wide, 12)
	same(t, "span of all columns", results(first, last, ok), results(0, 23, true))
}

func TestPromise4OutOfRange(t *testing.T) {
	c := channel("1 2 1 12", "2 0 12 0")
	for _, n := range []int64{-1, 0, 3, 11, 13, 64, 65, 76, -64, math.MinInt64, math.MinInt64 + 1, math.MaxInt64, math.MaxInt64 - 1} {
		first, last, ok := impl.SpanOf(c, n)
		same(t, fmt.Sprint("span of ", n), results(first, last, ok), results(0, 0, false))
		for _, net := range []int64{1, 2, 12, n} {
			same(t, fmt.Sprint("above ", n, net), results(impl.MustBeAbove(c, n, net), impl.MustBeAbove(c, net, n)), results(false, false))
		}
		if n < 0 || n > 3 {
			density, ok := impl.DensityAt(c, n)
			same(t, fmt.Sprint("density at ", n), results(density, ok), results(0, false))
		}
	}
}

func TestPromise4MustBeAbove(t *testing.T) {
	check := func(c impl.Channel) {
		for a := int64(-1); a <= 13; a++ {
			for b := int64(-1); b <= 13; b++ {
				if impl.MustBeAbove(c, a, b) != pinsAbove(c, a, b) {
					t.Fatalf("%v: %d above %d is %v", c, a, b, !pinsAbove(c, a, b))
				}
			}
		}
	}
	tinyChannels(check)
	wideChannels(1000, check)
}

// checkCycle compares the cycle and the longest chain with all chains.
func checkCycle(t *testing.T, c impl.Channel) {
	t.Helper()
	want, most := leastCycle(c)
	if want != nil {
		most = 0
	}
	cycle, ok := impl.CycleOf(c)
	same(t, "cycle of "+brief(c), results(cycle, ok), results(want, want != nil))
	chain, ok := impl.LongestChain(c)
	same(t, "chain of "+brief(c), results(chain, ok), results(most, want == nil))
	_, ok = impl.FewestTracks(c)
	same(t, "routing of "+brief(c), ok, want == nil)
}

func TestPromise4Cycles(t *testing.T) {
	lengths := map[int]int{}
	check := func(c impl.Channel) {
		checkCycle(t, c)
		cycle, _ := impl.CycleOf(c)
		lengths[len(cycle)]++
	}
	tinyChannels(check)
	smallChannels(2000, 4, check)
	smallChannels(2000, 6, check)
	wideChannels(1000, check)
	ringChannels(1000, check)
	for length := 2; length <= impl.MaxNets; length++ {
		if lengths[0] < 100 || lengths[length] < 20 {
			t.Errorf("too few cycles are tried: %v", lengths)
		}
	}
}

func TestPromise4CyclesByHand(t *testing.T) {
	for _, row := range []struct {
		top, bottom string
		cycle       string
	}{
		{"1 2", "2 1", "1 2"},
		{"12 1", "1 12", "1 12"},
		{"12 11", "11 12", "11 12"},
		{"1 2 0 1", "0 1 2 2", "1 2"},
		{"2 3 1", "3 1 2", "1 2 3"},                        // 1 above 2, 2 above 3
		{"3 2 1", "2 1 3", "1 3 2"},                        // 1 above 3, 3 above 2
		{"1 2 3 8 9", "2 3 1 9 8", "8 9"},                  // the shorter one, though it has greater nets
		{"3 4 1 5", "4 3 5 1", "1 5"},                      // of several the least one
		{"2 9 2 4", "9 2 4 2", "2 4"},                      // two from one net
		{"1 4 2 1 3 5", "4 2 1 3 5 1", "1 3 5"},            // two of three nets from one net
		{"1 2 3 4 1 5 6", "2 3 4 1 5 6 1", "1 5 6"},        // the least next net is on a longer one
		{"1 2 3 2 4", "2 3 1 4 1", "1 2 3"},                // two with the same two nets first
		{"1 2 2 3 1", "2 3 3 2 0", "2 3"},                  // the net 1 is above the cycle, but on none
		{"1 1 2 7 7", "2 7 7 2 2", "2 7"},                  // nor with two ways to it
		{"1 2 3 4 5 6 7 8", "2 3 4 1 6 7 8 5", "1 2 3 4"},  // two of four nets
		{"5 6 7 8 4 3 2 1", "6 7 8 5 3 2 1 4", "1 4 3 2"},  // two of four nets, the other way
		{"1 2 2 1 1 2", "2 1 1 2 0 0", "1 2"},              // more than once
		{"5 1 2 5 3", "1 2 3 5 1", "1 2 3"},                // a column with one net
		{"1 2 3 4 5 6 1", "2 3 4 5 6 1 4", "1 4 5 6"},      // a short cut
		{"10 11 12 10 1 1", "11 12 10 9 9 10", "10 11 12"}, // above and below the cycle are other nets
		{"1 2 3 4 5 6 7 8 9 10 11 12", "2 3 4 5 6 7 8 9 10 11 12 1", "1 2 3 4 5 6 7 8 9 10 11 12"},
		{"2 3 4 5 6 7 8 9 10 11 12 1", "1 2 3 4 5 6 7 8 9 10 11 12", "1 12 11 10 9 8 7 6 5 4 3 2"},
	} {
		c := channel(row.top, row.bottom)
		same(t, "valid "+brief(c), impl.ValidChannel(c), true)
		cycle, ok := impl.CycleOf(c)
		same(t, "cycle of "+brief(c), results(cycle, ok), results(numbers(row.cycle), true))
		chain, ok := impl.LongestChain(c)
		same(t, "no chain of "+brief(c), results(chain, ok), results(0, false))
		tracks, ok := impl.FewestTracks(c)
		same(t, "no tracks of "+brief(c), results(tracks, ok), results(lists(""), false))
		tracks, ok = impl.LeftEdge(c)
		same(t, "no left edge of "+brief(c), results(tracks, ok), results(lists(""), false))
	}
}

func TestPromise4ChainsByHand(t *testing.T) {
	for _, row := range []struct {
		top, bottom string
		chain       int64
	}{
		{"0", "0", 0},
		{"1", "1", 0},
		{"7 7", "0 0", 1},
		{"7 7 8", "0 0 8", 1},
		{"1 2 1", "2 0 0", 2},
		{"1 2 3", "2 3 1", 0},
		{"1 2 1 3", "2 3 3 0", 3},
		{"12 5 12", "5 1 1", 3},
		{"1 1 1 0 0 0", "2 3 4 2 3 4", 2},
		{"1 2 3 4 5 6 7 8 9 10 11 1", "2 3 4 5 6 7 8 9 10 11 12 12", 12},
		{"12 11 10 9 8 7 6 5 4 3 2 12", "11 10 9 8 7 6 5 4 3 2 1 1", 12},
	} {
		c := channel(row.top, row.bottom)
		same(t, "valid "+brief(c), impl.ValidChannel(c), true)
		cycle, _ := leastCycle(c)
		chain, ok := impl.LongestChain(c)
		same(t, "chain of "+brief(c), results(chain, ok), results(row.chain, cycle == nil))
		got, ok := impl.CycleOf(c)
		same(t, "cycle of "+brief(c), results(got, ok), results(cycle, cycle != nil))
	}
}

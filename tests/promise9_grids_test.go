package tests

import (
	"math"
	"math/rand"
	"slices"
	"testing"

	"loop.example/g01149/impl"
)

func TestPromise9Limits(t *testing.T) {
	same(t, "limits", results(impl.MaxGrid, impl.MaxRouted, impl.MaxRoom, impl.MaxChoices), results(8, 6, 20, 20000))
}

// checkNoRouting checks that all functions with nets fail.
func checkNoRouting(t *testing.T, g impl.Grid, nets []impl.Net) {
	t.Helper()
	what := brief(nets, " of ", g)
	for _, chosen := range [][]int64{nil, make([]int64, len(nets)), {0}, {0, 0}} {
		use, ok := impl.ChosenUse(g, nets, chosen)
		same(t, "use without "+what, results(use, ok), results(impl.Grid{}, false))
		n, ok := impl.OverflowOf(g, nets, chosen)
		same(t, "overflow without "+what, results(n, ok), results(0, false))
		n, ok = impl.FullestEdge(g, nets, chosen)
		same(t, "fullest edge without "+what, results(n, ok), results(0, false))
	}
	chosen, n, ok := impl.BestChoice(g, nets)
	same(t, "best choice without "+what, results(chosen, n, ok), results(numbers(""), 0, false))
	chosen, n, ok = impl.GreedyChoice(g, nets)
	same(t, "greedy choice without "+what, results(chosen, n, ok), results(numbers(""), 0, false))
	n, ok = impl.CutBound(g, nets)
	same(t, "bound without "+what, results(n, ok), results(0, false))
	n, ok = impl.WireTotal(g, nets)
	same(t, "wires without "+what, results(n, ok), results(0, false))
}

// checkNoNet checks that n is no net, alone and behind others, and has no shapes.
func checkNoNet(t *testing.T, g impl.Grid, n impl.Net) {
	t.Helper()
	same(t, brief("net ", n, " of ", g), impl.IsNet(g, n), false)
	shapes, ok := impl.ShapesOf(g, n)
	same(t, brief("shapes of ", n, " in ", g), results(shapes, ok), results([][]impl.Point{}, false))
	checkNoRouting(t, g, []impl.Net{n})
	checkNoRouting(t, g, []impl.Net{{}, n})
}

// checkGrid checks what is reported of g, and returns it.
func checkGrid(t *testing.T, g impl.Grid) bool {
	t.Helper()
	is := isGrid(g)
	same(t, "valid "+brief(g), impl.ValidGrid(g), is)
	if is {
		return true
	}
	checkNoNet(t, g, impl.Net{})
	checkNoRouting(t, g, nil)
	return false
}

func TestPromise9ValidGrid(t *testing.T) {
	for _, row := range []struct {
		g    impl.Grid
		want bool
	}{
		{oneCell(), true}, // one cell
		{impl.Grid{Across: [][]int64{nil}}, true},
		{impl.Grid{Across: [][]int64{nil}, Up: [][]int64{}}, true},
		{impl.Grid{}, false}, // without lists
		{impl.Grid{Across: [][]int64{}, Up: [][]int64{}}, false},
		{impl.Grid{Up: [][]int64{{}}}, false},
		{gridOf("", "1 2"), false},
		{gridOf("", "1|2"), false},
		{impl.Grid{Across: [][]int64{{}}, Up: [][]int64{{}}}, false}, // one list too many
		{impl.Grid{Across: [][]int64{{}}, Up: [][]int64{{1}}}, false},

		{gridOf("1", ""), true}, // one row
		{gridOf("1 2 3", ""), true},
		{gridOf("1 2 3", "1 2 3 4"), false},
		{impl.Grid{Across: [][]int64{{1, 2}}, Up: [][]int64{nil}}, false},
		{gridOf("|", "1"), true}, // one column
		{gridOf("||", "1|2"), true},
		{gridOf("||", "1"), false},
		{gridOf("||", ""), false},
		{gridOf("||", "1|2|3"), false},
		{gridOf("||", "1 2|3 4"), false},
		{gridOf("||", "|"), false},

		{gridOf("1|2", "3 4"), true}, // two rows
		{gridOf("1 2|3 4", "5 6 7"), true},
		{gridOf("1 2|3 4|5 6", "5 6 7|8 9 10"), true},
		{gridOf("1 2|3 4", "5 6"), false}, // lists of other lengths
		{gridOf("1 2|3 4", "5 6 7 8"), false},
		{gridOf("1 2|3", "5 6 7"), false},
		{gridOf("1|2 3", "5 6"), false},
		{gridOf("1 2|3 4 5", "5 6 7"), false},
		{gridOf("1 2|", "5 6 7"), false},
		{gridOf("|1 2", "5"), false},
		{gridOf("1 2|3 4|5 6", "5 6 7|8 9"), false},
		{gridOf("1 2|3 4|5 6", "5 6|7 8 9"), false},
		{gridOf("1 2|3 4|5 6", "5 6 7|8 9 10 11"), false},
		{gridOf("1 2|3 4", ""), false}, // too few lists, and too many
		{gridOf("1 2|3 4|5 6", "5 6 7"), false},
		{gridOf("1 2|3 4", "5 6 7|8 9 10"), false},
		{gridOf("1 2|3 4|5 6", "5 6 7|8 9 10|11 12 13"), false},
		{gridOf("5 6 7", "1 2|3 4"), false}, // exchanged

		{gridOf("0|0", "0 0"), true}, // rooms
		{gridOf("20|20", "20 20"), true},
		{gridOf("21|20", "20 20"), false},
		{gridOf("20|21", "20 20"), false},
		{gridOf("20|20", "21 20"), false},
		{gridOf("20|20", "20 21"), false},
		{gridOf("-1|0", "0 0"), false},
		{gridOf("0|-1", "0 0"), false},
		{gridOf("0|0", "-1 0"), false},
		{gridOf("0|0", "0 -1"), false},
		{impl.Grid{Across: [][]int64{{math.MaxInt64}}}, false},
		{impl.Grid{Across: [][]int64{{math.MinInt64}}}, false},
		{impl.Grid{Across: [][]int64{{}, {}}, Up: [][]int64{{math.MaxInt64}}}, false},
		{impl.Grid{Across: [][]int64{{}, {}}, Up: [][]int64{{math.MinInt64}}}, false},

		{evenGrid(8, 8, 20), true}, // MaxGrid, and one more
		{evenGrid(8, 1, 1), true},
		{evenGrid(1, 8, 1), true},
		{evenGrid(9, 8, 1), false},
		{evenGrid(8, 9, 1), false},
		{evenGrid(9, 1, 1), false},
		{evenGrid(1, 9, 1), false},
		{evenGrid(9, 9, 1), false},
		{evenGrid(100, 100, 1), false},
	} {
		same(t, "grid "+brief(row.g), checkGrid(t, row.g), row.want)
	}
}

// TestPromise9ChangedGrids changes valid grids of all sizes a little.
func TestPromise9ChangedGrids(t *testing.T) {
	dice := rand.New(rand.NewSource(167))
	valid, broken := 0, 0
	for width := int64(1); width <= 8; width++ {
		for height := int64(1); height <= 8; height++ {
			for range 30 {
				g := diceGrid(dice, width, height, 20)
				same(t, "valid "+brief(g), checkGrid(t, g), true)
				changed := []*[][]int64{&g.Across, &g.Up}[dice.Intn(2)]
				all := *changed
				i := dice.Intn(len(all) + 1)
				switch kind := dice.Intn(5); {
				case kind == 0:
					*changed = slices.Insert(all, i, make([]int64, dice.Intn(int(width)+1)))
				case i == len(all):
					continue
				case kind == 1:
					*changed = slices.Delete(all, i, i+1)
				case kind == 2:
					all[i] = append(all[i], 1)
				case len(all[i]) == 0:
					continue
				case kind == 3:
					all[i] = all[i][1:]
				default:
					all[i][dice.Intn(len(all[i]))] = []int64{-1, 0, 20, 21, 7}[dice.Intn(5)]
				}
				if checkGrid(t, g) {
					valid++
				} else {
					broken++
				}
			}
		}
	}
	if valid < 100 || broken < 500 {
		t.Errorf("too few are still grids, %d, or not, %d", valid, broken)
	}
}

func TestPromise9EvenGrid(t *testing.T) {
	sides := []int64{math.MinInt64, -8, -1, 0, 1, 2, 3, 4, 5, 6, 7, 8, 9, 10, 16, 99, 1 << 32, 1<<32 + 3, math.MaxInt64}
	rooms := []int64{math.MinInt64, -1, 0, 1, 7, 20, 21, 1 << 32, math.MaxInt64}
	for _, width := range sides {
		for _, height := range sides {
			for _, room := range rooms {
				want := impl.Grid{}
				ok := width >= 1 && width <= 8 && height >= 1 && height <= 8 && room >= 0 && room <= 20
				if ok {
					want = evenGrid(width, height, room)
				}
				g, done := impl.EvenGrid(width, height, room)
				same(t, brief("even grid ", width, height, room), results(g, done, impl.ValidGrid(g)), results(want, ok, ok))
			}
		}
	}
	g, ok := impl.EvenGrid(3, 2, 5)
	same(t, "even grid", results(g, ok), results(gridOf("5 5|5 5", "5 5 5"), true))
	g, ok = impl.EvenGrid(1, 3, 5)
	same(t, "one column", results(g, ok), results(gridOf("||", "5|5"), true))
	g, ok = impl.EvenGrid(3, 1, 5)
	same(t, "one row", results(g, ok), results(gridOf("5 5", ""), true))
	g, ok = impl.EvenGrid(1, 1, 5)
	same(t, "one cell", results(g, ok), results(oneCell(), true))
}

// beyond has numbers around those of the cells, and far from them.
func beyond(side int64) []int64 {
	return append(counting(-1, side+2), 8, 99, 256, 1<<32, math.MinInt64, math.MaxInt64)
}

func TestPromise9Nets(t *testing.T) {
	for _, size := range [][2]int64{{1, 1}, {2, 1}, {1, 2}, {3, 2}, {2, 3}, {8, 1}, {1, 8}, {8, 8}} {
		g := evenGrid(size[0], size[1], 1)
		for _, x := range beyond(size[0]) {
			for _, y := range beyond(size[1]) {
				for _, p := range at(0, 0, size[0]-1, size[1]-1) {
					for _, n := range []impl.Net{{From: impl.Point{X: x, Y: y}, To: p}, {From: p, To: impl.Point{X: x, Y: y}}} {
						if !isNetOf(g, n) {
							checkNoNet(t, g, n)
						} else {
							same(t, brief("net ", n, " of ", g), impl.IsNet(g, n), true)
						}
					}
				}
			}
		}
	}
	for _, p := range strangers() {
		checkNoNet(t, evenGrid(8, 8, 1), impl.Net{From: p})
		checkNoNet(t, evenGrid(8, 8, 1), impl.Net{To: p})
		checkNoNet(t, evenGrid(8, 8, 1), impl.Net{From: p, To: p})
	}
}

// TestPromise9ManyNets has MaxRouted nets and more.
func TestPromise9ManyNets(t *testing.T) {
	g := evenGrid(3, 3, 1)
	for _, n := range netsOf(0, 0, 2, 2, 0, 0, 2, 0, 1, 1, 1, 1) {
		for count := range 9 {
			nets := slices.Repeat([]impl.Net{n}, count)
			if count > 6 {
				checkNoRouting(t, g, nets)
				continue
			}
			total, ok := impl.WireTotal(g, nets)
			same(t, brief("wires of ", nets), results(total, ok), results(far(n.From, n.To)*int64(count), true))
			checkRouting(t, g, nets)
		}
		checkNoRouting(t, g, slices.Repeat([]impl.Net{n}, 100000))
	}
}

func TestPromise9WireTotal(t *testing.T) {
	for _, row := range []struct {
		g     impl.Grid
		nets  []impl.Net
		total int64
	}{
		{oneCell(), nil, 0},
		{oneCell(), netsOf(0, 0, 0, 0), 0},
		{oneCell(), netsOf(0, 0, 0, 0, 0, 0, 0, 0), 0},
		{evenGrid(4, 1, 0), netsOf(3, 0, 1, 0), 2},
		{evenGrid(1, 4, 0), netsOf(0, 0, 0, 3), 3},
		{evenGrid(2, 2, 1), netsOf(0, 0, 1, 1, 0, 0, 1, 1), 4},
		{evenGrid(8, 8, 1), netsOf(0, 0, 7, 7, 7, 0, 0, 7, 7, 7, 0, 0, 0, 7, 7, 0, 3, 3, 3, 3, 2, 4, 1, 4), 57},
		{evenGrid(8, 8, 20), slices.Repeat(netsOf(7, 0, 0, 7), 6), 84},
	} {
		total, ok := impl.WireTotal(row.g, row.nets)
		same(t, brief("wires of ", row.nets), results(total, ok), results(row.total, true))
	}
}

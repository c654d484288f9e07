package tests

import (
	"fmt"
	"math"
	"testing"

	"loop.example/g01149/impl"
)

// checkNoRiver checks that rows are no river, and that all functions with
// rows fail then, though tracks and wires are in range.
func checkNoRiver(t *testing.T, top, bottom []int64) {
	t.Helper()
	what := "no river " + brief(top, bottom)
	same(t, what, results(impl.ValidRiver(top, bottom), impl.FitsRiver(top, bottom, 20)), results(false, false))
	n, ok := impl.LeastTracks(top, bottom)
	same(t, "least tracks of "+what, results(n, ok), results(0, false))
	shift, n, ok := impl.BestShift(top, bottom)
	same(t, "best shift of "+what, results(shift, n, ok), results(0, 0, false))
	checkNoTracks(t, what, top, bottom, 20)
	checkNoTracks(t, what, top, bottom, 0)
}

// checkNoTracks checks that the functions with tracks fail.
func checkNoTracks(t *testing.T, what string, top, bottom []int64, tracks int64) {
	t.Helper()
	same(t, "fits "+what, impl.FitsRiver(top, bottom, tracks), false)
	corners, ok := impl.RiverWire(top, bottom, tracks, 0)
	same(t, "wire of "+what, results(corners, ok), results(at(), false))
	n, ok := impl.RiverLength(top, bottom, tracks)
	same(t, "length of "+what, results(n, ok), results(0, false))
	n, ok = impl.RiverBends(top, bottom, tracks)
	same(t, "bends of "+what, results(n, ok), results(0, false))
	i, side, ok := impl.TightPins(top, bottom, tracks)
	same(t, "tight pins of "+what, results(i, side, ok), results(0, 0, false))
	low, high, ok := impl.ShiftRange(top, bottom, tracks)
	same(t, "shifts of "+what, results(low, high, ok), results(0, 0, false))
}

func TestPromise3ValidRiver(t *testing.T) {
	for _, row := range [][]int64{{0}, {99}, {0, 1}, {98, 99}, {0, 99}, {5, 6, 9}, counting(0, 20), counting(80, 20), everyOther(7, 20)} {
		same(t, fmt.Sprint("river ", row), impl.ValidRiver(row, row), true)
		same(t, fmt.Sprint("river from 40 to ", row), impl.ValidRiver(row, counting(40, int64(len(row)))), true)
		same(t, fmt.Sprint("river to 40 from ", row), impl.ValidRiver(counting(40, int64(len(row))), row), true)
	}
	for _, row := range [][]int64{
		{-1}, {100}, {math.MinInt64}, {math.MaxInt64}, {0, 0}, {1, 0}, {99, 100}, {-1, 0}, {3, 3}, {4, 3}, {1, 2, 2}, {1, 1, 2},
		{1, 3, 2}, {2, 1, 3}, {0, 1, 100}, {-1, 1, 2}, {0, math.MaxInt64}, {math.MinInt64, 0}, append(counting(0, 19), 18), counting(81, 20),
	} {
		good := counting(40, int64(len(row)))
		checkNoRiver(t, row, row)
		checkNoRiver(t, row, good)
		checkNoRiver(t, good, row)
	}
}

func TestPromise3RowLengths(t *testing.T) {
	for pins := int64(0); pins <= 22; pins++ {
		valid := pins >= 1 && pins <= impl.MaxRiver
		same(t, fmt.Sprint("pins ", pins), impl.ValidRiver(counting(3, pins), counting(9, pins)), valid)
		if !valid {
			checkNoRiver(t, counting(3, pins), counting(3, pins))
		}
		for other := int64(0); other <= 22; other++ {
			if other != pins {
				checkNoRiver(t, counting(3, pins), counting(3, other))
			}
		}
	}
	checkNoRiver(t, nil, nil)
	checkNoRiver(t, nil, []int64{4})
	checkNoRiver(t, []int64{4}, nil)
}

func TestPromise3TracksOutOfRange(t *testing.T) {
	for _, tracks := range []int64{-1, -2, -20, 21, 22, math.MinInt64, math.MinInt64 + 1, math.MaxInt64, math.MaxInt64 - 1} {
		for _, top := range [][]int64{{5, 6, 7}, {0, 1, 99}, {8, 9, 10}} {
			checkNoTracks(t, fmt.Sprint(tracks, " tracks"), top, []int64{5, 6, 7}, tracks)
		}
		checkNoTracks(t, fmt.Sprint(tracks, " tracks"), []int64{0}, []int64{0}, tracks)
		checkNoTracks(t, fmt.Sprint(tracks, " tracks"), counting(0, 20), counting(60, 20), tracks)
	}
}

// checkTracks checks what is told of a river in all numbers of tracks
// against whether there are wires.
func checkTracks(t *testing.T, top, bottom []int64, most int64) {
	t.Helper()
	least := int64(-1)
	for tracks := int64(0); tracks <= most; tracks++ {
		what := fmt.Sprint(top, bottom, " in ", tracks)
		fits := haveWires(top, bottom, tracks)
		same(t, what, impl.FitsRiver(top, bottom, tracks), fits)
		i, side, found := impl.TightPins(top, bottom, tracks)
		wantI, wantSide, wantFound := tightPins(top, bottom, tracks)
		same(t, "tight pins of "+what, results(i, side, found), results(wantI, wantSide, wantFound))
		same(t, "tight or fits "+what, found, !fits)
		if fits && least < 0 {
			least = tracks
		}
	}
	n, ok := impl.LeastTracks(top, bottom)
	same(t, fmt.Sprint("least tracks of ", top, bottom), results(n, ok), results(least, true))
}

// tightPins goes through all pins as the document tells it.
func tightPins(top, bottom []int64, tracks int64) (int64, int64, bool) {
	for i := range int64(len(top)) {
		j := i + tracks
		if j < int64(len(top)) && bottom[j]-top[i] < tracks {
			return i, 0, true
		}
		if j < int64(len(top)) && top[j]-bottom[i] < tracks {
			return i, 1, true
		}
	}
	return 0, 0, false
}

func TestPromise3Fits(t *testing.T) {
	for _, size := range [][2]int64{{8, 1}, {7, 2}, {6, 3}, {7, 4}, {6, 5}} {
		riversIn(size[0], size[1], func(top, bottom []int64) {
			checkTracks(t, top, bottom, size[1]+1)
		})
	}
}

func TestPromise3FitsWide(t *testing.T) {
	wideRivers(40, func(top, bottom []int64) {
		checkTracks(t, top, bottom, impl.MaxTracks)
	})
	wideRivers(60, func(top, bottom []int64) {
		checkTracks(t, bottom, bottom, 2)
	})
}

// TestPromise3ManyPins has rivers that need as many tracks as they have
// pins, as no pin is so many further then, and one track less is too few.
func TestPromise3ManyPins(t *testing.T) {
	for pins := int64(1); pins <= impl.MaxRiver; pins++ {
		low, high := counting(0, pins), counting(100-pins, pins)
		if pins <= 2 || pins >= 19 {
			checkTracks(t, low, high, impl.MaxTracks)
			checkTracks(t, high, low, impl.MaxTracks)
		}
		n, ok := impl.LeastTracks(low, high)
		same(t, fmt.Sprint("tracks of ", pins), results(n, ok), results(pins, true))
		i, side, ok := impl.TightPins(low, high, pins-1)
		same(t, fmt.Sprint("left of ", pins), results(i, side, ok), results(0, 1, true))
		i, side, ok = impl.TightPins(high, low, pins-1)
		same(t, fmt.Sprint("right of ", pins), results(i, side, ok), results(0, 0, true))
	}
}

func TestPromise3Example(t *testing.T) {
	top, bottom := []int64{2, 3, 4}, []int64{0, 1, 2}
	n, ok := impl.LeastTracks(top, bottom)
	same(t, "tracks", results(n, ok), results(3, true))
	corners, ok := impl.RiverWire(top, bottom, 3, 0)
	same(t, "wire", results(corners, ok), results(at(0, 0, 0, 3, 2, 3, 2, 4), true))
	i, side, ok := impl.TightPins(top, bottom, 1)
	same(t, "tight", results(i, side, ok), results(0, 0, true))
	shift, n, ok := impl.BestShift(top, bottom)
	same(t, "shift", results(shift, n, ok), results(-2, 0, true))
}

// TestPromise3TightPins has the same gap too small on both sides, on one
// side, and only behind gaps that are wide.
func TestPromise3TightPins(t *testing.T) {
	for _, c := range []struct {
		top, bottom     []int64
		tracks, i, side int64
	}{
		{[]int64{5, 6}, []int64{4, 5}, 0, 0, 0},
		{[]int64{4, 5}, []int64{5, 6}, 0, 0, 1},
		{[]int64{3, 5, 8}, []int64{3, 5, 7}, 0, 2, 0},
		{[]int64{3, 5, 7}, []int64{3, 5, 8}, 0, 2, 1},
		{[]int64{0, 9, 12}, []int64{3, 4, 10}, 0, 0, 1},
		{[]int64{0, 9, 12}, []int64{3, 4, 9}, 1, 1, 0},
		{[]int64{10, 20, 30, 40}, []int64{12, 29, 40, 41}, 1, 2, 1},
		{counting(0, 20), counting(19, 20), 19, 0, 1},
	} {
		i, side, ok := impl.TightPins(c.top, c.bottom, c.tracks)
		same(t, fmt.Sprint(c), results(i, side, ok), results(c.i, c.side, true))
	}
}

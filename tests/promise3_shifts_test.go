package tests

import (
	"fmt"
	"testing"

	"loop.example/g01149/impl"
)

// fitsShifted reports whether a river fits if all pins of top are shifted.
func fitsShifted(top, bottom []int64, tracks, shift int64) bool {
	_, _, tight := tightPins(moved(top, shift), bottom, tracks)
	return !tight
}

// checkShifts tries all shifts with all numbers of tracks up to some.
func checkShifts(t *testing.T, top, bottom []int64, most int64) {
	t.Helper()
	bestShift, bestTracks := int64(0), int64(-1)
	for tracks := int64(0); tracks <= most; tracks++ {
		low, high, found := int64(0), int64(0), false
		for shift := int64(-impl.MaxShift); shift <= impl.MaxShift; shift++ {
			if !fitsShifted(top, bottom, tracks, shift) {
				continue
			}
			if !found {
				low, found = shift, true
			}
			high = shift
			if bestTracks < 0 || bestTracks == tracks && size(shift) < size(bestShift) {
				bestShift, bestTracks = shift, tracks
			}
		}
		gotLow, gotHigh, ok := impl.ShiftRange(top, bottom, tracks)
		same(t, fmt.Sprint("shifts of ", top, bottom, " in ", tracks), results(gotLow, gotHigh, ok), results(low, high, found))
	}
	shift, tracks, ok := impl.BestShift(top, bottom)
	same(t, fmt.Sprint("best shift of ", top, bottom), results(shift, tracks, ok), results(bestShift, bestTracks, true))
}

func size(n int64) int64 { return max(n, -n) }

func TestPromise3Shifts(t *testing.T) {
	for _, pins := range []int64{1, 2, 3} {
		riversIn(6, pins, func(top, bottom []int64) { checkShifts(t, top, bottom, pins+1) })
	}
	wideRivers(60, func(top, bottom []int64) { checkShifts(t, top, bottom, impl.MaxTracks) })
}

// TestPromise3ShiftsFit checks that shifts with which all places are of the
// grid are those with which the river fits.
func TestPromise3ShiftsFit(t *testing.T) {
	wideRivers(60, func(top, bottom []int64) {
		for tracks := range int64(impl.MaxTracks + 1) {
			low, high, ok := impl.ShiftRange(top, bottom, tracks)
			for shift := -top[0]; shift+top[len(top)-1] <= impl.MaxCoord; shift++ {
				within := ok && shift >= low && shift <= high
				same(t, fmt.Sprint(top, bottom, tracks, shift), impl.FitsRiver(moved(top, shift), bottom, tracks), within)
			}
		}
	})
}

// TestPromise3ShiftEnds has shifts at both ends of their range, ranges that
// leave the grid, ranges of one shift, and ranges without 0 on either side.
func TestPromise3ShiftEnds(t *testing.T) {
	for _, c := range []struct {
		top, bottom       []int64
		tracks, low, high int64
		found             bool
	}{
		{[]int64{0}, []int64{99}, 0, 99, 99, true},
		{[]int64{99}, []int64{0}, 0, -99, -99, true},
		{[]int64{0}, []int64{99}, 1, -200, 200, true},
		{[]int64{0}, []int64{99}, 20, -200, 200, true},
		{counting(0, 20), counting(80, 20), 20, -200, 200, true},
		{counting(0, 20), counting(80, 20), 19, 80, 80, true},
		{[]int64{0, 99}, []int64{0, 99}, 1, -98, 98, true},
		{[]int64{0, 1}, []int64{98, 99}, 1, 98, 98, true},
		{[]int64{0, 1}, []int64{0, 99}, 1, 0, 98, true},
		{[]int64{0, 99}, []int64{98, 99}, 1, 0, 98, true},
		{[]int64{0, 99}, []int64{98, 99}, 0, 0, 0, false},
		{[]int64{0, 2, 4}, []int64{1, 3, 5}, 0, 1, 1, true},
		{[]int64{0, 2, 4}, []int64{1, 3, 6}, 0, 0, 0, false},
		{[]int64{0, 2, 4}, []int64{1, 3, 6}, 1, 0, 2, true},
		{[]int64{2, 3, 4}, []int64{0, 1, 2}, 2, -2, -2, true},
		{[]int64{2, 3, 4}, []int64{0, 1, 2}, 3, -200, 200, true},
	} {
		low, high, ok := impl.ShiftRange(c.top, c.bottom, c.tracks)
		same(t, fmt.Sprint(c), results(low, high, ok), results(c.low, c.high, c.found))
	}
}

// TestPromise3BestShift has several shifts with the fewest tracks: the best
// one is the end of their range that is nearer to 0, whether this is below or
// above. Where two of the same absolute value are in the range, so is 0.
func TestPromise3BestShift(t *testing.T) {
	for _, c := range []struct {
		top, bottom   []int64
		shift, tracks int64
	}{
		{[]int64{7}, []int64{7}, 0, 0},
		{[]int64{0}, []int64{99}, 99, 0},
		{[]int64{99}, []int64{0}, -99, 0},
		{[]int64{5, 10}, []int64{4, 11}, 0, 1},
		{[]int64{0, 5}, []int64{50, 60}, 46, 1},
		{[]int64{50, 60}, []int64{0, 5}, -46, 1},
		{[]int64{0, 10}, []int64{4, 10}, 0, 1},
		{[]int64{0, 1, 50}, []int64{40, 90, 99}, 41, 1},
		{[]int64{0, 1, 98, 99}, []int64{48, 49, 50, 51}, 0, 2},
		{[]int64{2, 3, 4}, []int64{0, 1, 2}, -2, 0},
		{counting(0, 20), counting(80, 20), 80, 0},
	} {
		shift, tracks, ok := impl.BestShift(c.top, c.bottom)
		same(t, fmt.Sprint(c), results(shift, tracks, ok), results(c.shift, c.tracks, true))
		checkShifts(t, c.top, c.bottom, int64(len(c.top)))
	}
}

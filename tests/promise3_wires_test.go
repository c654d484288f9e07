package tests

import (
	"fmt"
	"maps"
	"math"
	"slices"
	"testing"

	"loop.example/g01149/impl"
)

// trackPlaces returns the places of a pin at the ends of all tracks, from
// the pin of bottom on, as the document tells them.
func trackPlaces(top, bottom []int64, tracks, i int64) []int64 {
	places := []int64{bottom[i]}
	for k := int64(1); k <= tracks; k++ {
		place := top[i]
		if top[i] > bottom[i] && i+k < int64(len(bottom)) {
			place = min(place, bottom[i+k]-k)
		}
		if top[i] < bottom[i] && i-k >= 0 {
			place = max(place, bottom[i-k]+k)
		}
		places = append(places, place)
	}
	return places
}

// wirePoints returns all points of a wire with such places on its tracks.
func wirePoints(places []int64) []impl.Point {
	list := at(places[0], 0)
	for k := 1; k < len(places); k++ {
		x, y := places[k-1], int64(k)
		list = append(list, impl.Point{X: x, Y: y})
		for x != places[k] {
			if x < places[k] {
				x++
			} else {
				x--
			}
			list = append(list, impl.Point{X: x, Y: y})
		}
	}
	return append(list, impl.Point{X: places[len(places)-1], Y: int64(len(places))})
}

// checkWires checks all wires of a river that fits: where they go, that they
// join the pins, have no point in common, and go across on tracks alone.
func checkWires(t *testing.T, top, bottom []int64, tracks int64) {
	t.Helper()
	what := fmt.Sprint(top, bottom, " in ", tracks)
	taken := map[impl.Point]bool{}
	length, bends := 0, 0
	wires := [][]impl.Point{}
	for i := range int64(len(top)) {
		list := wirePoints(trackPlaces(top, bottom, tracks, i))
		corners, ok := impl.RiverWire(top, bottom, tracks, i)
		same(t, fmt.Sprint("wire ", i, " of ", what), results(corners, ok), results(ends(list), true))
		same(t, "start of "+what, list[0], impl.Point{X: bottom[i], Y: 0})
		same(t, "end of "+what, list[len(list)-1], impl.Point{X: top[i], Y: tracks + 1})
		for k, p := range list {
			if taken[p] {
				t.Errorf("%s: two wires have %v", what, p)
			}
			if k > 0 && p.Y == list[k-1].Y && (p.Y < 1 || p.Y > tracks) {
				t.Errorf("%s: %v is across beside the tracks", what, p)
			}
			taken[p] = true
		}
		length += len(list) - 1
		bends += len(turns(list))
		wires = append(wires, corners)
	}
	same(t, "apart "+what, impl.AreApart(wires), true)
	n, ok := impl.RiverLength(top, bottom, tracks)
	same(t, "length of "+what, results(n, ok), results(length, true))
	n, ok = impl.RiverBends(top, bottom, tracks)
	same(t, "bends of "+what, results(n, ok), results(bends, true))
}

// checkNoWires checks that a river that does not fit has no wires.
func checkNoWires(t *testing.T, top, bottom []int64, tracks int64) {
	t.Helper()
	what := fmt.Sprint(top, bottom, " in ", tracks)
	for i := range int64(len(top)) {
		corners, ok := impl.RiverWire(top, bottom, tracks, i)
		same(t, "wire of "+what, results(corners, ok), results(at(), false))
	}
	n, ok := impl.RiverLength(top, bottom, tracks)
	same(t, "length of "+what, results(n, ok), results(0, false))
	n, ok = impl.RiverBends(top, bottom, tracks)
	same(t, "bends of "+what, results(n, ok), results(0, false))
}

func checkAllTracks(t *testing.T, top, bottom []int64) {
	t.Helper()
	for tracks := range int64(impl.MaxTracks + 1) {
		if _, _, tight := tightPins(top, bottom, tracks); tight {
			checkNoWires(t, top, bottom, tracks)
		} else {
			checkWires(t, top, bottom, tracks)
		}
	}
}

func TestPromise3Wires(t *testing.T) {
	for _, size := range [][2]int64{{5, 1}, {5, 2}, {6, 3}, {6, 4}} {
		riversIn(size[0], size[1], func(top, bottom []int64) {
			for tracks := range size[1] + 2 {
				if _, _, tight := tightPins(top, bottom, tracks); tight {
					checkNoWires(t, top, bottom, tracks)
				} else {
					checkWires(t, top, bottom, tracks)
				}
			}
		})
	}
}

func TestPromise3WiresWide(t *testing.T) {
	wideRivers(200, func(top, bottom []int64) { checkAllTracks(t, top, bottom) })
	for _, bottom := range [][]int64{counting(0, 20), everyOther(0, 20), everyOther(61, 20), counting(80, 20), everyOther(30, 20)} {
		for _, top := range [][]int64{counting(0, 20), counting(80, 20), counting(40, 20), everyOther(0, 20), everyOther(61, 20), bottom} {
			checkAllTracks(t, top, bottom)
		}
	}
}

// TestPromise3WireForms has wires in both directions, straight ones, one
// with more corners than MaxPoints, and ones that skip tracks.
func TestPromise3WireForms(t *testing.T) {
	for _, c := range []struct {
		top, bottom  []int64
		tracks, wire int64
		want         []impl.Point
	}{
		{[]int64{0}, []int64{0}, 0, 0, at(0, 0, 0, 1)},
		{[]int64{99}, []int64{99}, 20, 0, at(99, 0, 99, 21)},
		{[]int64{99}, []int64{0}, 1, 0, at(0, 0, 0, 1, 99, 1, 99, 2)},
		{[]int64{0}, []int64{99}, 20, 0, at(99, 0, 99, 1, 0, 1, 0, 21)},
		{[]int64{4, 9}, []int64{4, 6}, 3, 0, at(4, 0, 4, 4)},
		{[]int64{4, 9}, []int64{4, 6}, 3, 1, at(6, 0, 6, 1, 9, 1, 9, 4)},
		{[]int64{5, 9}, []int64{2, 6}, 1, 0, at(2, 0, 2, 1, 5, 1, 5, 2)},
		{[]int64{6, 9}, []int64{2, 6}, 2, 0, at(2, 0, 2, 1, 5, 1, 5, 2, 6, 2, 6, 3)},
		{[]int64{2, 6}, []int64{6, 9}, 2, 1, at(9, 0, 9, 1, 7, 1, 7, 2, 6, 2, 6, 3)},
		{[]int64{5, 6, 9}, []int64{1, 2, 7}, 3, 0, at(1, 0, 1, 2, 5, 2, 5, 4)},
		{[]int64{3, 4, 9}, []int64{1, 2, 3}, 3, 0, at(1, 0, 1, 3, 3, 3, 3, 4)},
		{[]int64{1, 2, 7}, []int64{4, 5, 8}, 3, 1, at(5, 0, 5, 2, 2, 2, 2, 4)},
	} {
		corners, ok := impl.RiverWire(c.top, c.bottom, c.tracks, c.wire)
		same(t, fmt.Sprint(c), results(corners, ok), results(c.want, true))
	}
	corners, ok := impl.RiverWire(counting(50, 20), everyOther(0, 20), 20, 0)
	same(t, "many corners", results(len(corners), ok), results(42, true))
	same(t, "many corners apart", impl.AreApart([][]impl.Point{corners, at(49, 0, 49, 9)}), true)
}

func TestPromise3NoWire(t *testing.T) {
	top, bottom := []int64{2, 3, 4}, []int64{0, 1, 2}
	for _, wire := range []int64{-1, -3, 3, 4, 20, math.MaxInt64, math.MinInt64} {
		corners, ok := impl.RiverWire(top, bottom, 3, wire)
		same(t, fmt.Sprint("wire ", wire), results(corners, ok), results(at(), false))
	}
	corners, ok := impl.RiverWire(counting(0, 20), counting(0, 20), 0, 19)
	same(t, "last wire", results(corners, ok), results(at(19, 0, 19, 1), true))
	corners, ok = impl.RiverWire(counting(0, 20), counting(0, 20), 0, 20)
	same(t, "behind the last wire", results(corners, ok), results(at(), false))
	checkNoWires(t, top, bottom, 2)
	checkNoWires(t, top, bottom, 0)
}

// apart decides of paths with all their points.
func apart(paths ...[]impl.Point) bool {
	taken := map[impl.Point]int{}
	for _, list := range paths {
		for _, p := range list {
			taken[p]++
		}
	}
	for _, count := range taken {
		if count > 1 {
			return false
		}
	}
	return true
}

// somePaths returns each step-th path in a square, in the order of their
// texts.
func somePaths(side int64, step int) [][]impl.Point {
	paths := pathsInSquare(side)
	var some [][]impl.Point
	for i, text := range slices.Sorted(maps.Keys(paths)) {
		if i%step == 0 {
			some = append(some, paths[text])
		}
	}
	return some
}

func checkApart(t *testing.T, paths ...[]impl.Point) {
	t.Helper()
	var wires [][]impl.Point
	for _, list := range paths {
		wires = append(wires, ends(list))
	}
	same(t, "apart "+brief(paths), impl.AreApart(wires), apart(paths...))
}

func TestPromise3AreApart(t *testing.T) {
	some := somePaths(3, 4)
	for _, a := range some {
		checkApart(t, a)
		for _, b := range some {
			checkApart(t, a, b)
		}
	}
	small := somePaths(2, 1)
	for _, a := range small {
		for _, b := range small {
			for _, c := range small {
				checkApart(t, a, b, c)
			}
		}
	}
}

// TestPromise3AreCorners decides of short lists in a square whether they are
// the corners of a path, which a list with a point in between is not.
func TestPromise3AreCorners(t *testing.T) {
	corners := map[string]bool{}
	for _, list := range pathsInSquare(3) {
		corners[fmt.Sprint(ends(list))] = true
	}
	for length := 0; length <= 3; length++ {
		listsOver(square(3), length, func(list []impl.Point) {
			is := corners[fmt.Sprint(list)]
			same(t, fmt.Sprint("corners ", list), impl.AreApart([][]impl.Point{list}), is)
			same(t, fmt.Sprint("corners behind others ", list), impl.AreApart([][]impl.Point{at(9, 9), list}), is)
			same(t, fmt.Sprint("corners before others ", list), impl.AreApart([][]impl.Point{list, at(9, 9)}), is)
		})
	}
}

// upright returns so many wires beside each other.
func upright(count int64) [][]impl.Point {
	wires := [][]impl.Point{}
	for x := range count {
		wires = append(wires, at(x, 0, x, 99))
	}
	return wires
}

func TestPromise3ApartLimits(t *testing.T) {
	same(t, "no wires", results(impl.AreApart(nil), impl.AreApart([][]impl.Point{})), results(true, true))
	for count := int64(0); count <= 25; count++ {
		same(t, fmt.Sprint(count, " wires"), impl.AreApart(upright(count)), count <= 20)
	}
	same(t, "first and last", impl.AreApart(append(upright(19), at(18, 50, 30, 50))), false)
	same(t, "beside the last", impl.AreApart(append(upright(19), at(19, 50, 30, 50))), true)
	same(t, "twice", impl.AreApart([][]impl.Point{at(99, 99), at(99, 99)}), false)
	same(t, "far corners", impl.AreApart([][]impl.Point{at(0, 0), at(99, 0), at(0, 99), at(99, 99)}), true)
	same(t, "long", impl.AreApart([][]impl.Point{ends(snake(576)), at(0, 24)}), true)
	same(t, "long and its end", impl.AreApart([][]impl.Point{ends(snake(576)), at(0, 23)}), false)
	same(t, "too long", impl.AreApart([][]impl.Point{ends(snake(577))}), false)
	same(t, "stairs", impl.AreApart([][]impl.Point{stairs(199), at(0, 1)}), true)
	for _, p := range strangers() {
		same(t, fmt.Sprint("outside ", p), impl.AreApart([][]impl.Point{{p}}), false)
		same(t, fmt.Sprint("to outside ", p), impl.AreApart([][]impl.Point{at(5, 5), {{X: 0, Y: 0}, p}}), false)
	}
	same(t, "an empty list", impl.AreApart([][]impl.Point{at(1, 1), nil}), false)
}

package tests

import (
	"fmt"
	"math/rand"
	"slices"
	"testing"

	"loop.example/g01149/impl"
)

// checkSegments compares segments and wiring of any lists with the document's
// rules, and returns the wiring.
func checkSegments(t *testing.T, paths ...[]impl.Point) (impl.Wiring, bool) {
	t.Helper()
	what := brief(len(paths), " ", paths)
	segments, ok := segmentsByRule(paths)
	var indices [][]int64
	for _, s := range segments {
		if ok {
			indices = append(indices, s.indices)
		}
	}
	got, done := impl.SegmentsOf(paths)
	same(t, "segments of "+what, results(got, done), results(indices, ok))
	want, ok := wiringByRule(paths)
	w, done := impl.WiringOf(paths)
	same(t, "wiring of "+what, results(w, done), results(want, ok))
	return w, ok
}

func through(corners ...int64) []impl.Point {
	list, ok := impl.PathThrough(at(corners...))
	if !ok {
		panic("no corners of a path")
	}
	return list
}

func TestPromise8Segments(t *testing.T) {
	crossed := map[bool]int{}
	small := somePaths(2, 1)
	for _, a := range small {
		checkSegments(t, a)
		for _, b := range small {
			w, _ := checkSegments(t, a, b)
			crossed[len(w.Crossings) > 0]++
		}
	}
	for _, a := range somePaths(3, 1) {
		checkSegments(t, a)
	}
	some := somePaths(3, 7)
	for _, a := range some {
		for _, b := range some {
			w, _ := checkSegments(t, a, b)
			crossed[len(w.Crossings) > 0]++
		}
	}
	if crossed[false] < 500 || crossed[true] < 1000 {
		t.Errorf("too few paths cross or do not: %v", crossed)
	}
}

func TestPromise8SomePaths(t *testing.T) {
	dice := rand.New(rand.NewSource(151))
	made, failed, layered := 0, 0, 0
	for i := range 3000 {
		side, runs := []int64{4, 8, 30}[i%3], 1+dice.Intn(9)
		var paths [][]impl.Point
		for range dice.Intn(7) {
			paths = append(paths, dicePath(dice, side, runs))
		}
		w, ok := checkSegments(t, paths...)
		if !ok {
			failed++
			continue
		}
		made++
		if checkVias(t, w) > 0 {
			layered++
		}
	}
	if made < 500 || failed < 500 || layered < 500 {
		t.Errorf("too few paths have a wiring, %d, or none, %d, or layers, %d", made, failed, layered)
	}
}

func TestPromise8PathsByHand(t *testing.T) {
	for _, row := range []struct {
		paths             [][]impl.Point
		segments          string
		crossings, joints string
	}{
		{nil, "", "", ""},
		{[][]impl.Point{through(0, 0, 1, 0)}, "0 0 1", "", ""},
		{[][]impl.Point{through(0, 0, 99, 0)}, "0 0 1", "", ""},
		{[][]impl.Point{through(0, 0, 3, 0, 3, 3)}, "0 0 1|0 1 2", "", "0 1 1"}, // neighbours have a point in common, but do not cross
		{[][]impl.Point{through(0, 0, 3, 0, 3, 1, 0, 1)}, "0 0 1|0 1 2|0 2 3", "", "0 1 1|1 2 1"},
		{[][]impl.Point{through(0, 1, 2, 1, 2, 3), through(1, 0, 1, 2)}, "0 0 1|0 1 2|1 0 1", "0 2", "0 1 1"}, // the example
		{[][]impl.Point{through(1, 0, 1, 2), through(0, 1, 2, 1, 2, 3)}, "0 0 1|1 0 1|1 1 2", "0 1", "1 2 1"},
		{[][]impl.Point{through(0, 0, 9, 0), through(0, 1, 9, 1)}, "0 0 1|1 0 1", "", ""},    // beside each other
		{[][]impl.Point{through(0, 0, 4, 0), through(5, 0, 9, 0)}, "0 0 1|1 0 1", "", ""},    // one behind the other
		{[][]impl.Point{through(0, 0, 4, 0), through(4, 0, 9, 0)}, "0 0 1|1 0 1", "0 1", ""}, // meet at an end
		{[][]impl.Point{through(0, 0, 4, 0), through(4, 4, 4, 0)}, "0 0 1|1 0 1", "0 1", ""},
		{[][]impl.Point{through(0, 0, 4, 0), through(2, 0, 2, 5)}, "0 0 1|1 0 1", "0 1", ""},                      // an end in the middle
		{[][]impl.Point{through(0, 0, 4, 0, 4, 4), through(4, 0, 9, 0)}, "0 0 1|0 1 2|1 0 1", "0 2|1 2", "0 1 1"}, // an end at a corner
		{[][]impl.Point{through(0, 0, 4, 0, 4, 4), through(8, 0, 4, 0, 4, 1)}, "0 0 1|0 1 2|1 0 1|1 1 2", "0 2|0 3|1 2|1 3", "0 1 1|2 3 1"},
		{[][]impl.Point{through(0, 4, 4, 4, 4, 0), through(8, 4, 4, 4, 4, 8)}, "0 0 1|0 1 2|1 0 1|1 1 2", "0 2|0 3|1 2|1 3", "0 1 1|2 3 1"}, // touch at a corner
		{[][]impl.Point{through(0, 0, 9, 0), through(3, 0, 5, 0)}, "0 0 1|1 0 1", "0 1", ""},                                                // lie on one another
		{[][]impl.Point{through(0, 0, 9, 0), through(12, 0, 5, 0)}, "0 0 1|1 0 1", "0 1", ""},
		{[][]impl.Point{through(0, 0, 9, 0), through(0, 0, 9, 0)}, "0 0 1|1 0 1", "0 1", ""}, // the same
		{[][]impl.Point{through(0, 0, 9, 0), through(9, 0, 0, 0)}, "0 0 1|1 0 1", "0 1", ""}, // from the other end
		{[][]impl.Point{through(0, 0, 3, 0, 3, 3), through(0, 0, 3, 0, 3, 3)}, "0 0 1|0 1 2|1 0 1|1 1 2", "0 2|0 3|1 2|1 3", "0 1 1|2 3 1"},
		{[][]impl.Point{through(2, 0, 2, 9), through(0, 5, 9, 5), through(5, 0, 5, 9)}, "0 0 1|1 0 1|2 0 1", "0 1|1 2", ""},
		{[][]impl.Point{through(2, 0, 2, 9), through(0, 5, 5, 5, 5, 2, 1, 2)}, "0 0 1|1 0 1|1 1 2|1 2 3", "0 1|0 3", "1 2 1|2 3 1"}, // twice
		{[][]impl.Point{through(0, 0, 2, 0), through(0, 1, 2, 1), through(0, 2, 2, 2), through(0, 3, 2, 3), through(0, 4, 2, 4), through(0, 5, 2, 5)},
			"0 0 1|1 0 1|2 0 1|3 0 1|4 0 1|5 0 1", "", ""}, // MaxPaths
	} {
		what := brief(row.paths)
		checkSegments(t, row.paths...)
		segments, ok := impl.SegmentsOf(row.paths)
		same(t, "segments of "+what, results(segments, ok), results(lists(row.segments), true))
		w, ok := impl.WiringOf(row.paths)
		same(t, "wiring of "+what, results(w, ok), results(wired(int64(len(segments)), row.crossings, row.joints, ""), true))
	}
}

// rightAngled is a path with so many segments.
func rightAngled(segments int64) []impl.Point { return stairs(segments + 1) }

// comb has nine segments, five of which go up at X 0, 2, 4, 6 and 8.
func comb() []impl.Point { return through(0, 0, 0, 9, 2, 9, 2, 0, 4, 0, 4, 9, 6, 9, 6, 0, 8, 0, 8, 9) }

func TestPromise8PathLimits(t *testing.T) {
	for _, row := range []struct {
		what         string
		paths        [][]impl.Point
		segments, ok bool
	}{
		{"MaxPaths", slices.Repeat([][]impl.Point{through(3, 3, 9, 3)}, 6), true, true},
		{"one more", slices.Repeat([][]impl.Point{through(3, 3, 9, 3)}, 7), false, false},
		{"MaxPaths and one more that is no path", append(slices.Repeat([][]impl.Point{through(3, 3, 9, 3)}, 6), nil), false, false},
		{"one point", [][]impl.Point{at(3, 3)}, false, false},
		{"two points", [][]impl.Point{at(3, 3, 3, 4)}, true, true},
		{"one point behind others", [][]impl.Point{through(0, 0, 9, 0), at(5, 5)}, false, false},
		{"one point before others", [][]impl.Point{at(5, 5), through(0, 0, 9, 0)}, false, false},
		{"an empty list", [][]impl.Point{nil}, false, false},
		{"an empty list behind others", [][]impl.Point{through(0, 0, 9, 0), {}}, false, false},
		{"corners", [][]impl.Point{at(0, 0, 3, 0, 3, 3)}, false, false},
		{"a point twice", [][]impl.Point{at(0, 0, 1, 0, 0, 0)}, false, false},
		{"a ring", [][]impl.Point{at(0, 0, 1, 0, 1, 1, 0, 1, 0, 0)}, false, false},
		{"outside", [][]impl.Point{at(99, 0, 100, 0)}, false, false},
		{"outside behind others", [][]impl.Point{through(0, 0, 9, 0), at(0, 0, 0, -1)}, false, false},
		{"MaxSegments", [][]impl.Point{rightAngled(14)}, true, true},
		{"more than MaxSegments", [][]impl.Point{rightAngled(15)}, true, false},
		{"many segments", [][]impl.Point{rightAngled(197)}, true, false},
		{"many segments of all paths", slices.Repeat([][]impl.Point{rightAngled(197)}, 6), true, false},
		{"MaxSegments of several paths", [][]impl.Point{rightAngled(6), shifted(rightAngled(7), 20, 0), shifted(rightAngled(1), 40, 0)}, true, true},
		{"one more of several paths", [][]impl.Point{rightAngled(6), shifted(rightAngled(7), 20, 0), shifted(rightAngled(2), 40, 0)}, true, false},
		{"a long path", [][]impl.Point{snake(576)}, true, false},
		{"a path that is too long", [][]impl.Point{snake(577)}, false, false},
		{"MaxJoints crossings", [][]impl.Point{comb(), through(0, 9, 8, 9), through(0, 0, 8, 0), through(0, 5, 8, 5), through(0, 5, 8, 5), through(3, 5, 8, 5)}, true, true},
		{"one more crossing", [][]impl.Point{comb(), through(0, 9, 8, 9), through(0, 0, 8, 0), through(0, 5, 8, 5), through(0, 5, 8, 5), through(1, 5, 8, 5)}, true, false},
	} {
		checkSegments(t, row.paths...)
		segments, ok := impl.SegmentsOf(row.paths)
		same(t, "segments of "+row.what, results(len(segments) > 0, ok), results(row.segments, row.segments))
		w, ok := impl.WiringOf(row.paths)
		same(t, "wiring of "+row.what, results(w.Segments > 0, ok), results(row.ok, row.ok))
		if ok {
			same(t, "valid wiring of "+row.what, results(impl.ValidWiring(w), int(w.Segments)), results(true, len(segments)))
		}
	}
	w, _ := impl.WiringOf([][]impl.Point{comb(), through(0, 9, 8, 9), through(0, 0, 8, 0), through(0, 5, 8, 5), through(0, 5, 8, 5), through(3, 5, 8, 5)})
	same(t, "MaxJoints crossings", results(w.Segments, len(w.Crossings)), results(14, 30))
}

func TestPromise8NoPaths(t *testing.T) {
	for _, list := range strangeLists() {
		checkSegments(t, list)
		checkSegments(t, through(0, 0, 9, 0), list)
		checkSegments(t, list, through(0, 0, 9, 0))
	}
	for _, p := range strangers() {
		_, ok := checkSegments(t, append(snake(5), p))
		same(t, fmt.Sprint("wiring to ", p), ok, false)
		_, ok = checkSegments(t, []impl.Point{p, {X: 0, Y: 0}})
		same(t, fmt.Sprint("wiring from ", p), ok, false)
	}
}

// TestPromise8EachPoint moves a straight path over another one that lies across
// it, and beyond its ends.
func TestPromise8EachPoint(t *testing.T) {
	level := through(2, 4, 6, 4)
	for x := range int64(9) {
		for low := range int64(8) {
			for high := low + 1; high < 9; high++ {
				upright := through(x, low, x, high)
				meet := x >= 2 && x <= 6 && low <= 4 && high >= 4
				w, ok := checkSegments(t, level, upright)
				same(t, brief("upright at ", x, low, high), results(len(w.Crossings) == 1, ok), results(meet, true))
				slices.Reverse(upright)
				w, ok = checkSegments(t, turned(level), turned(upright))
				same(t, brief("turned at ", x, low, high), results(len(w.Crossings) == 1, ok), results(meet, true))
			}
		}
	}
}

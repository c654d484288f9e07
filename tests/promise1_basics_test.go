package tests

import (
	"fmt"
	"math"
	"slices"
	"strings"
	"testing"

	"loop.example/g01149/impl"
)

func strangeLists() [][]impl.Point {
	lists := [][]impl.Point{
		nil, {}, at(3, 4), at(99, 99), at(3, 4, 3, 4), at(5, 1, 2, 9, 5, 0, 2, 9),
		at(0, 0, 1, 0, 1, 1), at(0, 0, 1, 0, 1, 1, 0, 1, 0, 0), at(0, 0, 0, 9, 9, 9), at(0, 0, 5, 5),
		at(0, 0, 9, 0, 9, 5, 4, 5, 4, 0), at(0, 0, 5, 0, 2, 0), at(0, 0, 2, 0, 4, 0),
		repeated(impl.Point{X: 7, Y: 7}, 24), repeated(impl.Point{X: 7, Y: 7}, 25),
		snake(24), snake(25), snake(576), snake(577), stairs(198), square(24),
		repeated(impl.Point{X: 1, Y: 1}, 100000),
		at(0, 0, 0, math.MaxInt64), at(0, 0, math.MinInt64, 0), at(math.MinInt64, 0, math.MaxInt64, 0),
		at(math.MaxInt64, math.MaxInt64, math.MinInt64, math.MinInt64),
	}
	for _, p := range strangers() {
		lists = append(lists, []impl.Point{p}, []impl.Point{{X: 1, Y: 1}, p}, []impl.Point{p, {X: 1, Y: 1}, p})
	}
	return lists
}

func strangeNumbers() []int64 {
	return []int64{0, 1, -1, 9, 10, 65520, 65521, impl.MaxValue, -impl.MaxValue, impl.MaxValue + 1,
		-impl.MaxValue - 1, math.MaxInt64, math.MinInt64}
}

func strangeTexts() []string {
	return []string{"", "none", "None", "none,none", "a", "clock", "abcdefgh", "abcdefghi", "\x00", "\xff", "é",
		"0", "-0", "+1", "01", "1000000000", "-1000000000", "1000000001", "9223372036854775808", "1,-2", "1,", ",1", ",",
		"1.2", "1.2,4.0,1.2", "1.2,", "1.2.3", ".", "1.", ".1", "100.0", "-1.0", "0.-1", "٣", "1 ", " 1", "1\n",
		strings.Repeat("z", 1000000), strings.Repeat("9", 1000000), strings.Repeat(",", 1000000), strings.Repeat("0,", 1000000),
		strings.Repeat("1.1,", 1000000), strings.Repeat("\xff", 1000000)}
}

func pointListCalls() []call {
	var calls []call
	for _, list := range strangeLists() {
		g := guard(list, impl.Point{X: 41, Y: 42})
		add := func(name string, reports bool, run func() []any) {
			calls = append(calls, call{name + " of " + brief(list), reports, run, g.changed})
		}
		add("ArePoints", true, func() []any { return results(impl.ArePoints(g.list)) })
		add("IsPath", true, func() []any { return results(impl.IsPath(g.list)) })
		add("BoxOf", false, func() []any { a, b, ok := impl.BoxOf(g.list); return results(a, b, ok) })
		add("SortPoints", false, func() []any { a, ok := impl.SortPoints(g.list); return results(a, ok) })
		add("LengthOf", false, func() []any { a, ok := impl.LengthOf(g.list); return results(a, ok) })
		add("BendsOf", false, func() []any { a, ok := impl.BendsOf(g.list); return results(a, ok) })
		add("CornersOf", false, func() []any { a, ok := impl.CornersOf(g.list); return results(a, ok) })
		add("PathThrough", false, func() []any { a, ok := impl.PathThrough(g.list); return results(a, ok) })
		add("PointsText", false, func() []any { a, ok := impl.PointsText(g.list); return results(a, ok) })
		for _, p := range append(strangers(), at(0, 0, 99, 99, 5, 5)...) {
			add(fmt.Sprint("NearestPoint to ", p), false, func() []any { a, ok := impl.NearestPoint(g.list, p); return results(a, ok) })
		}
	}
	return calls
}

func numberListCalls() []call {
	var calls []call
	lists := [][]int64{nil, {}, {0}, {1, -2}, strangeNumbers(), make([]int64, 60), make([]int64, 61), make([]int64, 100000)}
	for _, n := range strangeNumbers() {
		lists = append(lists, []int64{n}, []int64{5, n}, []int64{n, 5})
	}
	for _, list := range lists {
		g := guard(list, 43)
		run := func() []any { a, ok := impl.ListText(g.list); return results(a, ok) }
		calls = append(calls, call{"ListText of " + brief(list), false, run, g.changed})
	}
	return calls
}

func otherCalls() []call {
	var calls []call
	add := func(name string, reports bool, run func() []any) {
		calls = append(calls, call{name, reports, run, unchangeable})
	}
	for _, n := range strangeNumbers() {
		add(fmt.Sprint("Decimal ", n), true, func() []any { return results(impl.Decimal(n)) })
		for _, s := range strangeTexts() {
			add(fmt.Sprintf("CheckOf(%d, %.60q)", n, s), false, func() []any { a, ok := impl.CheckOf(n, s); return results(a, ok) })
		}
	}
	for _, s := range strangeTexts() {
		name := fmt.Sprintf("(%.60q)", s)
		add("IsName"+name, true, func() []any { return results(impl.IsName(s)) })
		add("ReadDecimal"+name, false, func() []any { a, ok := impl.ReadDecimal(s); return results(a, ok) })
		add("ReadPoints"+name, false, func() []any { a, ok := impl.ReadPoints(s); return results(a, ok) })
		add("ReadList"+name, false, func() []any { a, ok := impl.ReadList(s); return results(a, ok) })
	}
	points := append(strangers(), at(0, 0, 99, 99, 5, 5)...)
	for _, p := range points {
		add(fmt.Sprint("IsPoint ", p), true, func() []any { return results(impl.IsPoint(p)) })
		for _, q := range points {
			add(fmt.Sprint("DistanceOf ", p, q), false, func() []any { a, ok := impl.DistanceOf(p, q); return results(a, ok) })
		}
	}
	return calls
}

func TestPromise1Basics(t *testing.T) {
	checkCalls(t, slices.Concat(pointListCalls(), numberListCalls(), otherCalls()))
}

// TestPromise1Several calls the functions from several goroutines: equal
// arguments have equal results then, too.
func TestPromise1Several(t *testing.T) {
	list := at(5, 1, 2, 9, 5, 0, 2, 9)
	all := make(chan string)
	for range 8 {
		go func() {
			sorted, _ := impl.SortPoints(list)
			read, _ := impl.ReadPoints("1.2,3.4")
			path, _ := impl.PathThrough(at(0, 0, 0, 3, 4, 3))
			all <- fmt.Sprint(sorted, read, path)
		}()
	}
	for range 8 {
		same(t, "several", <-all, "[{2 9} {5 0} {5 1}] [{1 2} {3 4}] [{0 0} {0 1} {0 2} {0 3} {1 3} {2 3} {3 3} {4 3}]")
	}
	same(t, "argument", list, at(5, 1, 2, 9, 5, 0, 2, 9))
}

package tests

import (
	"math"
	"math/rand"
	"slices"
	"testing"

	"loop.example/g01149/impl"
)

// checkPressing compares what is told of a list of shapes with the document's
// rules, and returns the number of rules, and whether shapes can be pressed.
func checkPressing(t *testing.T, list []impl.Shape, apart int64) (int, bool) {
	t.Helper()
	what := brief(apart, " apart in ", list)
	same(t, "shapes "+what, impl.AreShapes(list), areShapesByRule(list))
	want, is := shapeRulesByRule(list, apart)
	p, ok := impl.ShapeRules(list, apart)
	same(t, "rules of "+what, results(p, ok), results(want, is))
	moved, _ := pressByRule(list, apart)
	pressed, ok := impl.PressShapes(list, apart)
	same(t, "pressed "+what, results(pressed, ok), results(moved, is))
	if is {
		checkPressed(t, list, pressed, apart)
	}
	return len(want.Rules), is
}

// checkPressed checks what the document tells of pressed shapes.
func checkPressed(t *testing.T, list, pressed []impl.Shape, apart int64) {
	t.Helper()
	what := brief(pressed, " for ", apart, " apart in ", list)
	var places []int64
	greatest := int64(0)
	for i, s := range pressed {
		places = append(places, s.X)
		greatest = max(greatest, s.X)
		s.X = list[i].X
		same(t, "shape of "+what, s, list[i])
		if apart == 0 && pressed[i].X > list[i].X {
			t.Errorf("the shape %d of %s is not further to the left", i, what)
		}
	}
	p, _ := impl.ShapeRules(list, apart)
	least, ok := impl.LeastPlaces(p)
	same(t, "places of "+what, results(places, ok), results(least, true))
	same(t, "overlap of "+what, haveOverlap(pressed), false)
	for i, a := range pressed {
		for k, b := range pressed {
			if i != k && faceByRule(a, b) && list[i].X < list[k].X && b.X < a.X+a.Width+apart {
				t.Errorf("the shapes %d and %d of %s are too near", i, k, what)
			}
		}
	}
	same(t, "shapes "+what, impl.AreShapes(pressed), greatest <= 1000)
	again, ok := impl.PressShapes(pressed, apart)
	if greatest > 1000 {
		pressed = nil // they begin too far to the right to be shapes again
	}
	same(t, "twice pressed "+what, results(again, ok), results(pressed, greatest <= 1000))
}

func TestPromise10SomeShapes(t *testing.T) {
	with, many, beyond, alone, moved := 0, 0, 0, 0, 0
	severalShapes(3000, func(dice *rand.Rand, list []impl.Shape) {
		apart := []int64{0, 0, 1, 2, 5, 300, 998, 1000}[dice.Intn(8)]
		rules, ok := checkPressing(t, list, apart)
		p, _ := impl.ShapeRules(list, 0)
		switch {
		case ok && rules == 0:
			alone++
		case ok:
			with++
		case len(p.Rules) > 0: // too far apart
			beyond++
		case len(list) > 9:
			many++
		}
		if pressed, ok := impl.PressShapes(list, 0); ok && slices.Compare(xOf(pressed), xOf(list)) != 0 {
			moved++
		}
	})
	if with < 1000 || many < 20 || beyond < 50 || alone < 100 || moved < 1000 {
		t.Errorf("too few shapes have rules, %d, or too many, %d, or too great ones, %d, or none, %d, or move, %d", with, many, beyond, alone, moved)
	}
}

func xOf(list []impl.Shape) []int64 {
	var all []int64
	for _, s := range list {
		all = append(all, s.X)
	}
	return all
}

// TestPromise10AllShapes has all pairs of small shapes, and some of three.
func TestPromise10AllShapes(t *testing.T) {
	var all []impl.Shape
	choicesOver(numbers("4 4 2 2"), func(n []int64) {
		all = append(all, impl.Shape{X: n[0], Y: n[1], Width: n[2] + 1, Height: n[3] + 1})
	})
	dice := rand.New(rand.NewSource(233))
	are, areNot := 0, 0
	for i, a := range all {
		for k, b := range all {
			list := []impl.Shape{a, b}
			if dice.Intn(2) == 0 {
				list = append(list, all[dice.Intn(len(all))])
			}
			if _, ok := checkPressing(t, list, int64((i+k)%3)); ok {
				are++
			} else {
				areNot++
			}
		}
	}
	if are < 1000 || areNot < 1000 {
		t.Errorf("too few are shapes, %d, or not, %d", are, areNot)
	}
}

// TestPromise10ChangedShapes changes a number of a shape.
func TestPromise10ChangedShapes(t *testing.T) {
	are, areNot := 0, 0
	severalShapes(1500, func(dice *rand.Rand, list []impl.Shape) {
		same(t, "shapes "+brief(list), impl.AreShapes(list), true)
		s := &list[dice.Intn(len(list))]
		number := []*int64{&s.X, &s.Y, &s.Width, &s.Height}[dice.Intn(4)]
		switch kind := dice.Intn(8); kind {
		case 0:
			*number = []int64{-1, 0, 1000, 1001, 1 << 32, math.MinInt64}[dice.Intn(6)]
		case 1:
			list = append(list, list[dice.Intn(len(list))]) // one that is equal
		default:
			*number += dice.Int63n(5) - 2
		}
		checkPressing(t, list, dice.Int63n(3))
		if impl.AreShapes(list) {
			are++
		} else {
			areNot++
		}
	})
	if are < 300 || areNot < 300 {
		t.Errorf("too few are still shapes, %d, or not, %d", are, areNot)
	}
}

func TestPromise10ShapesByHand(t *testing.T) {
	for _, row := range []struct {
		list []impl.Shape
		want bool
	}{
		{nil, false}, // none
		{[]impl.Shape{}, false},
		{rectangles(0, 0, 1, 1), true},
		{sideBySide(12, 0, 1, 1, 0), true}, // MaxShapes, and one more
		{sideBySide(13, 0, 1, 1, 0), false},
		{sideBySide(13, 0, 70, 1, 7), false},

		{rectangles(0, 0, 2, 2, 1, 1, 2, 2), false}, // overlap
		{rectangles(1, 1, 2, 2, 0, 0, 2, 2), false},
		{rectangles(0, 1, 2, 2, 1, 0, 2, 2), false},
		{rectangles(0, 0, 2, 2, 0, 0, 2, 2), false}, // equal
		{rectangles(0, 0, 1, 1, 0, 0, 1, 1), false},
		{rectangles(0, 0, 9, 9, 3, 4, 1, 1), false}, // one in the other one
		{rectangles(3, 4, 1, 1, 0, 0, 9, 9), false},
		{rectangles(0, 3, 9, 1, 3, 0, 1, 9), false}, // across each other
		{rectangles(0, 0, 2, 1, 0, 0, 1, 2), false},
		{rectangles(0, 0, 2, 2, 2, 0, 2, 2), true}, // touch at a side
		{rectangles(2, 0, 2, 2, 0, 0, 2, 2), true},
		{rectangles(0, 0, 2, 2, 0, 2, 2, 2), true},
		{rectangles(0, 2, 2, 2, 0, 0, 2, 2), true},
		{rectangles(0, 0, 2, 2, 2, 1, 2, 2), true},
		{rectangles(0, 0, 2, 2, 1, 2, 2, 2), true},
		{rectangles(0, 0, 2, 2, 2, 2, 2, 2), true}, // at a corner
		{rectangles(2, 0, 2, 2, 0, 2, 2, 2), true},
		{rectangles(0, 0, 2, 2, 1, 0, 2, 2), false}, // by 1 too near
		{rectangles(0, 0, 2, 2, 0, 1, 2, 2), false},
		{rectangles(0, 0, 2, 2, 3, 0, 2, 2), true},
		{rectangles(0, 0, 1, 1, 5, 0, 2, 2, 6, 1, 2, 2), false}, // not the first pair
		{rectangles(5, 0, 2, 2, 0, 0, 1, 1, 6, 1, 2, 2), false},
		{rectangles(5, 0, 2, 2, 6, 1, 2, 2, 0, 0, 1, 1), false},

		{rectangles(1000, 0, 1, 1), true}, // X, Y, Width and Height
		{rectangles(0, 1000, 1, 1), true},
		{rectangles(0, 0, 1000, 1), true},
		{rectangles(0, 0, 1, 1000), true},
		{rectangles(1000, 1000, 1000, 1000), true},
		{rectangles(1001, 0, 1, 1), false},
		{rectangles(0, 1001, 1, 1), false},
		{rectangles(0, 0, 1001, 1), false},
		{rectangles(0, 0, 1, 1001), false},
		{rectangles(-1, 0, 1, 1), false},
		{rectangles(0, -1, 1, 1), false},
		{rectangles(0, 0, 0, 1), false},
		{rectangles(0, 0, 1, 0), false},
		{rectangles(0, 0, 0, 0), false},
		{rectangles(0, 0, -1, 1), false},
		{rectangles(0, 0, 1, -1), false},
		{rectangles(0, 0, 1, 1, 5, 5, 1, 0), false}, // not the first shape
		{rectangles(0, 0, 1, 1, 5, -5, 1, 1), false},
		{rectangles(0, 0, 1, 1, 5, 5, 1, 1, 1001, 9, 1, 1), false},
		{rectangles(math.MinInt64, 0, 1, 1), false},
		{rectangles(0, math.MaxInt64, 1, 1), false},
		{rectangles(0, 0, math.MaxInt64, 1), false},
		{rectangles(0, 0, 1, math.MinInt64), false},
		{rectangles(1<<32, 0, 1, 1), false},
		{rectangles(math.MaxInt64, 0, math.MaxInt64, 1, 0, 0, 1, 1), false},
		{rectangles(0, 0, 1000, 1000, 1000, 1000, 1000, 1000), true},
		{rectangles(0, 0, 1000, 1000, 999, 999, 1, 1), false},
	} {
		what := brief(len(row.list), row.list)
		same(t, "shapes "+what, results(impl.AreShapes(row.list), areShapesByRule(row.list)), results(row.want, row.want))
		for _, apart := range []int64{0, 1, 1000} {
			_, ok := checkPressing(t, row.list, apart)
			if !row.want {
				same(t, "rules of "+what, ok, false)
			}
		}
	}
}

// facing has the first shapes of nine side by side, all of which face one another
// in 36 pairs, and some more behind them, each of which faces just one, two or
// four of the nine.
func facing(more ...impl.Shape) []impl.Shape {
	list := sideBySide(9, 0, 1, 1, 0)
	for i := range list {
		list[i].Height = []int64{4, 3, 2, 2, 1, 1, 1, 1, 1}[i]
	}
	return append(list, more...)
}

func TestPromise10ShapeRulesByHand(t *testing.T) {
	for _, row := range []struct {
		list  []impl.Shape
		apart int64
		rules string
		x     string
		ok    bool
	}{
		{rectangles(2, 0, 3, 2, 9, 1, 2, 2, 7, 5, 1, 1), 1, "0 1 4", "0 4 0", true},
		{rectangles(2, 0, 3, 2, 9, 1, 2, 2, 7, 5, 1, 1), 0, "0 1 3", "0 3 0", true},
		{rectangles(9, 1, 2, 2, 2, 0, 3, 2), 0, "1 0 3", "3 0", true}, // the first one at the right
		{rectangles(5, 5, 1, 1), 0, "", "0", true},                    // one shape
		{rectangles(5, 5, 1, 1), 1000, "", "0", true},
		{rectangles(0, 0, 2, 2, 5, 1, 2, 2), 0, "0 1 2", "0 2", true}, // more than a point of Y
		{rectangles(0, 0, 2, 2, 5, 2, 2, 2), 0, "", "0 0", true},      // only a point of Y
		{rectangles(0, 2, 2, 2, 5, 0, 2, 2), 0, "", "0 0", true},
		{rectangles(0, 0, 2, 2, 5, 3, 2, 2), 0, "", "0 0", true},
		{rectangles(5, 0, 2, 2, 5, 2, 2, 2), 0, "", "0 0", true}, // at the same X
		{rectangles(5, 0, 2, 1, 5, 1, 2, 1, 0, 0, 1, 2), 0, "2 0 1|2 1 1", "1 1 0", true},
		{rectangles(0, 0, 1, 1, 1, 0, 1, 1), 0, "0 1 1", "0 1", true}, // touch
		{rectangles(0, 0, 1, 1, 1, 0, 1, 1), 3, "0 1 4", "0 4", true}, // are moved to the right
		{rectangles(0, 0, 3, 1, 4, 0, 3, 1, 8, 0, 3, 1), 0, "0 1 3|0 2 3|1 2 3", "0 3 6", true},
		{rectangles(8, 0, 3, 1, 4, 0, 3, 1, 0, 0, 3, 1), 0, "1 0 3|2 0 3|2 1 3", "6 3 0", true},
		{rectangles(4, 0, 3, 1, 8, 0, 3, 1, 0, 0, 3, 1), 2, "0 1 5|2 0 5|2 1 5", "5 10 0", true}, // in order of i, and then of k
		{rectangles(0, 0, 7, 1, 9, 0, 1, 3, 3, 2, 2, 1), 0, "0 1 7|2 1 2", "0 7 0", true},
		{rectangles(3, 0, 7, 1, 20, 0, 1, 3, 9, 2, 2, 1, 30, 1, 1, 1), 0, "0 1 7|1 3 1|2 1 2", "0 7 0 8", true},
		{rectangles(0, 0, 9, 1, 0, 2, 3, 1, 12, 0, 1, 3, 15, 1, 4, 2), 1, "0 2 10|1 2 4|1 3 4|2 3 2", "0 0 10 12", true},

		{rectangles(0, 0, 2, 2, 5, 0, 2, 2), 998, "0 1 1000", "0 1000", true}, // Width and apart together
		{rectangles(0, 0, 2, 2, 5, 0, 2, 2), 999, "", "", false},
		{rectangles(0, 0, 2, 2, 5, 0, 2, 2), 1000, "", "", false},
		{rectangles(0, 0, 2, 2, 5, 0, 999, 2), 998, "0 1 1000", "0 1000", true}, // the last Width does not count
		{rectangles(0, 0, 1000, 1, 1000, 0, 1000, 1), 0, "0 1 1000", "0 1000", true},
		{rectangles(0, 0, 1000, 1, 1000, 0, 1000, 1), 1, "", "", false},
		{rectangles(0, 0, 1000, 1, 1000, 1, 1000, 1), 1, "", "0 0", true},
		{rectangles(0, 0, 2, 2, 5, 0, 2, 2), -1, "", "", false}, // apart
		{rectangles(0, 0, 2, 2, 5, 2, 2, 2), -1, "", "", false},
		{rectangles(0, 0, 2, 2, 5, 2, 2, 2), 1000, "", "0 0", true},
		{rectangles(0, 0, 2, 2, 5, 2, 2, 2), 1001, "", "", false},
		{rectangles(0, 0, 2, 2, 5, 2, 2, 2), math.MaxInt64, "", "", false},
		{rectangles(0, 0, 2, 2, 5, 2, 2, 2), math.MinInt64, "", "", false},
		{rectangles(0, 0, 2, 2, 5, 0, 2, 2), math.MaxInt64, "", "", false},
		{sideBySide(4, 0, 1, 1, 0), 600, "0 1 601|0 2 601|0 3 601|1 2 601|1 3 601|2 3 601", "0 601 1202 1803", true}, // further than MaxApart
		{sideBySide(3, 0, 1, 1, 5), 499, "0 1 500|0 2 500|1 2 500", "0 500 1000", true},
		{sideBySide(3, 0, 1, 1, 5), 500, "0 1 501|0 2 501|1 2 501", "0 501 1002", true},

		{nil, 0, "", "", false},
		{rectangles(0, 0, 2, 2, 1, 1, 2, 2), 0, "", "", false},
		{rectangles(0, 0, 2, 2, 0, 0, 2, 2), 0, "", "", false},
	} {
		what := brief(row.apart, " apart in ", row.list)
		checkPressing(t, row.list, row.apart)
		want, moved := impl.Press{}, slices.Clone(row.list)
		if row.ok {
			want = press(int64(len(row.list)), row.rules)
			for i, x := range numbers(row.x) {
				moved[i].X = x
			}
		} else {
			moved = nil
		}
		p, ok := impl.ShapeRules(row.list, row.apart)
		same(t, "rules of "+what, results(p, ok), results(want, row.ok))
		pressed, ok := impl.PressShapes(row.list, row.apart)
		same(t, "pressed "+what, results(pressed, ok), results(moved, row.ok))
	}
}

// TestPromise10ManyPairs has shapes with just MaxRules pairs that face one
// another, with fewer, and with more.
func TestPromise10ManyPairs(t *testing.T) {
	one, two, four := rectangles(20, 3, 1, 1), rectangles(30, 2, 1, 1), rectangles(40, 1, 1, 1)
	for _, row := range []struct {
		list  []impl.Shape
		pairs int
		ok    bool
	}{
		{facing(), 36, true},
		{facing(one...), 37, true},
		{facing(two...), 38, true},
		{facing(four...), 40, true},
		{facing(append(slices.Clone(one), two...)...), 39, true},
		{facing(append(slices.Clone(one), four...)...), 41, false},
		{facing(append(slices.Clone(two), four...)...), 42, false},
		{sideBySide(9, 0, 5, 1, 1), 36, true},
		{sideBySide(10, 0, 5, 1, 1), 45, false},
		{sideBySide(12, 0, 5, 1, 1), 66, false},
		{append(sideBySide(6, 0, 5, 1, 1), sideBySide(6, 1, 4, 1, 1)...), 30, true}, // two rows
		{append(sideBySide(4, 0, 5, 1, 1), sideBySide(8, 1, 4, 1, 1)...), 34, true},
		{append(sideBySide(3, 0, 5, 1, 1), sideBySide(9, 1, 4, 1, 1)...), 39, true},
		{append(sideBySide(2, 0, 5, 1, 1), sideBySide(10, 1, 4, 1, 1)...), 46, false},
	} {
		pairs := 0
		for i, a := range row.list {
			for _, b := range row.list[i+1:] {
				if faceByRule(a, b) {
					pairs++
				}
			}
		}
		what := brief(row.list)
		same(t, "pairs of "+what, pairs, row.pairs)
		same(t, "shapes "+what, impl.AreShapes(row.list), true)
		for _, apart := range []int64{0, 1, 20} {
			rules, ok := checkPressing(t, row.list, apart)
			same(t, "rules of "+what, ok, row.ok)
			if ok {
				same(t, "count of "+what, rules, row.pairs)
			}
		}
	}
}

package tests

import (
	"math/rand"
	"slices"
	"testing"

	"loop.example/g01149/impl"
)

// checkRising compares the rising ring with all lists of rules, and with the
// least places. It returns the number of its rules.
func checkRising(t *testing.T, p impl.Press) int {
	t.Helper()
	want := risingByRule(p)
	ring, ok := impl.RisingRing(p)
	same(t, "ring of "+brief(p), results(ring, ok), results(want, want != nil))
	if ok {
		same(t, brief("rising ", ring, " of ", p), isRisingRing(p, ring), true)
	}
	_, placed := impl.LeastPlaces(p)
	same(t, "places without a ring in "+brief(p), placed, want == nil)
	return len(want)
}

func TestPromise10Rings(t *testing.T) {
	lengths := map[int]int{}
	tinyPresses(func(p impl.Press) { lengths[checkRising(t, p)]++ })
	pressesOver(3, 4, numbers("1"), func(p impl.Press) { lengths[checkRising(t, p)]++ })
	pressesOver(2, 4, numbers("-1 0 1"), func(p impl.Press) { lengths[checkRising(t, p)]++ })
	if lengths[0] < 1000 || lengths[2] < 1000 || lengths[3] < 200 {
		t.Errorf("too few rings of some length are tried: %v", lengths)
	}
}

// TestPromise10SomeRings has up to eight parts and many rules, so that often
// several rings have as few rules.
func TestPromise10SomeRings(t *testing.T) {
	lengths := map[int]int{}
	dice := rand.New(rand.NewSource(199))
	for i := range 10000 {
		parts := int64(2 + i%7)
		p := dicePress(dice, parts, int(parts)+dice.Intn(int(2*parts)))
		for k := range p.Rules {
			switch i % 3 {
			case 0: // few sums, many of which are 0 and 1
				p.Rules[k].Apart = dice.Int63n(5) - 2
			case 1:
				p.Rules[k].Apart = dice.Int63n(7) - 4
			}
		}
		lengths[checkRising(t, p)]++
	}
	for length, few := range map[int]int{0: 1000, 2: 500, 3: 300, 4: 50, 5: 10} {
		if lengths[length] < few {
			t.Errorf("too few rings of some length are tried: %v", lengths)
		}
	}
}

// aroundZero has numbers whose sum is as it is told.
func aroundZero(dice *rand.Rand, count int, sum int64) []int64 {
	var list []int64
	for range count - 1 {
		n := dice.Int63n(41) - 20
		list = append(list, n)
		sum -= n
	}
	return append(list, sum)
}

// TestPromise10OneRing has a ring of each number of rules over any parts, whose
// sum is just 0 or 1, or a little more or less, among rules of which no ring
// rises, in any order.
func TestPromise10OneRing(t *testing.T) {
	dice := rand.New(rand.NewSource(211))
	lengths, firsts := map[int]int{}, map[bool]int{}
	for length := 2; length <= 8; length++ {
		for i := range 120 {
			sum := []int64{0, 1, 1, 5, -1}[i%5]
			names := diceSegments(dice, 8, length)
			p := impl.Press{Parts: 8, Rules: ringOfRules(names, aroundZero(dice, length, sum))}
			for range dice.Intn(7) { // against the way of the ring, or out of it
				ends := diceSegments(dice, 8, 2)
				p.Rules = append(p.Rules, impl.Rule{From: ends[0], To: ends[1], Apart: -150 - dice.Int63n(9)})
			}
			if dice.Intn(3) == 0 { // a second rule between the same parts
				r := p.Rules[dice.Intn(length)]
				r.Apart -= dice.Int63n(3)
				p.Rules = append(p.Rules, r)
			}
			dice.Shuffle(len(p.Rules), func(i, k int) { p.Rules[i], p.Rules[k] = p.Rules[k], p.Rules[i] })
			want := 0
			if sum > 0 {
				want = length
			}
			found := checkRising(t, p)
			same(t, "length of "+brief(p), found, want)
			lengths[found]++
			if ring, ok := impl.RisingRing(p); ok {
				firsts[p.Rules[ring[0]].From == slices.Min(names)]++
			}
		}
	}
	for length := 2; length <= 8; length++ {
		if lengths[length] < 50 {
			t.Errorf("too few rings of some length are tried: %v", lengths)
		}
	}
	if lengths[0] < 200 || firsts[true] < 50 || firsts[false] < 50 {
		t.Errorf("too few have no ring, %v, or one that begins with its least part, or not, %v", lengths, firsts)
	}
}

// TestPromise10ManyRings has as many rules as there can be, and hidden places
// that are kept by all rules, or by all but one.
func TestPromise10ManyRings(t *testing.T) {
	dice := rand.New(rand.NewSource(223))
	lengths := map[int]int{}
	for i := range 40 {
		hidden := make([]int64, 8)
		for k := range hidden {
			hidden[k] = dice.Int63n(30)
		}
		p := impl.Press{Parts: 8}
		for range 40 {
			ends := diceSegments(dice, 8, 2)
			p.Rules = append(p.Rules, impl.Rule{From: ends[0], To: ends[1], Apart: hidden[ends[1]] - hidden[ends[0]]})
		}
		if i%2 == 0 {
			p.Rules[dice.Intn(40)].Apart++
		}
		lengths[checkRising(t, p)]++
	}
	if lengths[0] < 10 || len(lengths) < 3 {
		t.Errorf("too few rings of some length are tried: %v", lengths)
	}
}

// TestPromise10MoreParts has presses of more than eight parts, which are not
// looked at, and rings over the first eight ones.
func TestPromise10MoreParts(t *testing.T) {
	for parts := int64(2); parts <= 16; parts++ {
		p := press(parts, "0 1 3|1 0 -2")
		var want []int64
		if parts <= 8 {
			want = numbers("0 1")
		}
		ring, ok := impl.RisingRing(p)
		same(t, brief("ring of ", parts, " parts"), results(ring, ok), results(want, want != nil))
		_, placed := impl.LeastPlaces(p)
		same(t, brief("places of ", parts, " parts"), placed, false)
		ring, ok = impl.RisingRing(chain(parts, 5))
		same(t, brief("ring of a chain of ", parts), results(ring, ok), results(numbers(""), false))
	}
}

func TestPromise10RingsByHand(t *testing.T) {
	for _, row := range []struct {
		p    impl.Press
		ring string
	}{
		{press(1, ""), ""},
		{press(8, ""), ""},
		{press(2, "0 1 1000"), ""}, // one rule is no ring
		{press(2, "0 1 3|1 0 -2"), "0 1"},
		{press(2, "0 1 3|1 0 -3"), ""}, // just 0
		{press(2, "0 1 3|1 0 -4"), ""},
		{press(2, "1 0 -2|0 1 3"), "0 1"}, // begins with the first rule
		{press(2, "0 1 1000|1 0 1000"), "0 1"},
		{press(2, "0 1 1000|1 0 -999"), "0 1"},
		{press(2, "0 1 -1000|1 0 -1000"), ""},
		{press(2, "0 1 5|0 1 5"), ""}, // the same way
		{press(2, "0 1 5|0 1 5|1 0 -4|1 0 -4"), "0 2"},
		{press(2, "0 1 5|0 1 7|1 0 -6|1 0 -9"), "1 2"}, // several rules: those that rise
		{press(2, "0 1 5|0 1 7|1 0 -4|1 0 -1"), "0 2"}, // the first ones that do, not the greatest
		{press(2, "0 1 5|0 1 7|1 0 -6|1 0 -4"), "0 3"}, // the first first rule
		{press(2, "1 0 -9|0 1 5|1 0 -4|0 1 9"), "1 2"},
		{press(2, "1 0 -9|0 1 5|1 0 -4|0 1 10"), "0 3"},
		{press(3, "0 1 1|1 2 1|2 0 -1"), "0 1 2"},
		{press(3, "0 1 1|1 2 1|2 0 -2"), ""},
		{press(3, "2 0 -1|0 1 1|1 2 1"), "0 1 2"},
		{press(3, "1 2 1|0 1 1|2 0 -1"), "0 2 1"},
		{press(3, "0 1 9|1 2 9|2 0 9|2 1 -8"), "1 3"},   // the shorter one
		{press(3, "0 1 9|1 2 9|2 0 9|2 1 -9"), "0 1 2"}, // which does not rise enough
		{press(4, "0 1 2|1 0 -1|2 3 2|3 2 -1"), "0 1"},  // two as short
		{press(4, "2 3 2|0 1 2|1 0 -1|3 2 -1"), "0 3"},  // the first one of both begins with a greater part
		{press(4, "0 1 2|2 3 2|3 2 -1|1 0 -1"), "0 3"},
		{press(4, "0 1 2|1 0 -2|2 3 2|3 2 -1"), "2 3"}, // the other one does not rise
		{press(5, "0 1 1|1 2 1|2 0 1|2 3 1|3 4 1|4 2 1"), "0 1 2"},
		{press(5, "0 1 -1|1 2 -1|2 0 -1|2 3 1|3 4 1|4 2 1"), "3 4 5"},
		{press(5, "0 1 -1|1 2 -1|2 0 2|2 3 1|3 4 -1|4 2 0|1 0 1|2 1 2|3 2 -1|4 3 1"), "1 7"},
		{press(5, "0 1 -1|1 2 -1|2 0 3|2 3 1|3 4 1|4 2 -2"), "0 1 2"},
		{press(5, "0 1 -1|1 2 -1|2 0 2|2 3 1|3 4 1|4 2 -1"), "3 4 5"}, // both together rise, too
		{press(6, "0 1 1|1 2 1|2 3 1|3 0 -2|0 4 1|4 5 1|5 3 2"), "0 1 2 3"},
		{press(6, "0 1 1|1 2 1|2 3 1|3 0 -3|0 4 1|4 5 1|5 3 2"), "3 4 5 6"}, // one way is too little, the other one rises
		{press(6, "5 4 1|4 3 1|3 2 1|2 1 1|1 0 1|0 5 -4"), "0 1 2 3 4 5"},
		{press(6, "5 4 1|4 3 1|3 2 1|2 1 1|1 0 1|0 5 -5"), ""},
		{impl.Press{Parts: 8, Rules: rulesInRow(8, 8, 1000)}, "0 1 2 3 4 5 6 7"}, // as long as can be
		{impl.Press{Parts: 8, Rules: rulesInRow(8, 40, 1000)}, "0 1 2 3 4 5 6 7"},
		{impl.Press{Parts: 8, Rules: rulesInRow(8, 40, 0)}, ""},
		{impl.Press{Parts: 8, Rules: rulesInRow(8, 40, -1000)}, ""},
		{impl.Press{Parts: 2, Rules: rulesInRow(2, 40, 1)}, "0 1"},
		{impl.Press{Parts: 8, Rules: append(rulesInRow(8, 32, -1), press(8, "5 6 8").Rules...)}, "0 1 2 3 4 32 6 7"}, // the last rule is needed
	} {
		what := brief(row.p)
		same(t, "valid "+what, isPress(row.p), true)
		checkRising(t, row.p)
		ring, ok := impl.RisingRing(row.p)
		same(t, "ring of "+what, results(ring, ok), results(numbers(row.ring), row.ring != ""))
	}
}

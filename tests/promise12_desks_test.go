package tests

import (
	"math/rand"
	"slices"
	"strings"
	"testing"

	"loop.example/g01149/impl"
)

func TestPromise12Limits(t *testing.T) {
	same(t, "limits", results(impl.MaxNamed, impl.MaxScript), results(6, 4000))
}

// checkNoDesk checks that the functions with a desk fail.
func checkNoDesk(t *testing.T, d impl.Desk) {
	t.Helper()
	what := brief(d)
	for _, line := range []string{"", " ", "what", "set a 0.0", "set a x", "drop a", "show a", "show b", "path a a", "draw a 1 1", "density 0/0", "tracks 0/0", "cycle x", "a\n"} {
		after, output, ok := impl.DeskCommand(d, line)
		same(t, brief("line ", line, " without ", what), results(after, output, ok), results(impl.Desk{}, "", false))
		after, output, ok = impl.RunDesk(d, line+"\n")
		same(t, brief("script ", line, " without ", what), results(after, output, ok), results(impl.Desk{}, "", false))
	}
	after, output, ok := impl.RunDesk(d, "")
	same(t, "empty script without "+what, results(after, output, ok), results(impl.Desk{}, "", false))
}

// checkDesk checks what is reported of d, and returns it.
func checkDesk(t *testing.T, d impl.Desk) bool {
	t.Helper()
	is := isDesk(d)
	same(t, "valid "+brief(d), impl.ValidDesk(d), is)
	if !is {
		checkNoDesk(t, d)
		return false
	}
	after, output, ok := impl.DeskCommand(d, "")
	same(t, "empty line with "+brief(d), results(after, output, ok), results(d, "what", true))
	after, output, ok = impl.RunDesk(d, "")
	same(t, "empty script with "+brief(d), results(after, output, ok), results(d, "", true))
	return true
}

// named has no points for each of some names.
func named(names ...string) impl.Desk {
	return impl.Desk{Names: names, Lists: make([][]impl.Point, len(names))}
}

// listed has lists with the names a, b and so on.
func listed(all ...[]impl.Point) impl.Desk {
	return impl.Desk{Names: strings.Split("abcdefghijklmnop", "")[:len(all)], Lists: all}
}

func TestPromise12ValidDesk(t *testing.T) {
	for _, row := range []struct {
		d    impl.Desk
		want bool
	}{
		{impl.Desk{}, true}, // no list
		{impl.Desk{Names: []string{}, Lists: [][]impl.Point{}}, true},
		{named("a"), true},
		{named("a", "b", "c", "d", "e"), true},
		{named("a", "b", "c", "d", "e", "f"), true}, // MaxNamed, and one more
		{named("a", "b", "c", "d", "e", "f", "g"), false},
		{named(strings.Split("abcdefghijklmnop", "")...), false},
		{deskOf("a 0.0,2.0,1.2|b none|c 99.99"), true},

		{named("abcdefgh"), true}, // names
		{named("abcdefghi"), false},
		{named("z"), true},
		{named(""), false},
		{named("", "a"), false},
		{named("a", ""), false},
		{named("A"), false},
		{named("a", "B"), false},
		{named("B", "a"), false},
		{named("a1"), false},
		{named("a b"), false},
		{named("a "), false},
		{named("é"), false},
		{named("a", "\xff"), false},
		{named("a", "b", "c", "d", "e", "f{"), false},
		{named("none"), true},

		{named("a", "a"), false}, // in their order
		{named("b", "a"), false},
		{named("a", "ab"), true},
		{named("ab", "a"), false},
		{named("ab", "b"), true},
		{named("b", "ab"), false},
		{named("a", "b", "b"), false},
		{named("a", "b", "a"), false},
		{named("a", "c", "b"), false},
		{named("a", "c", "b", "d"), false},
		{named("abcdefgh", "abcdefgi"), true},
		{named("abcdefgi", "abcdefgh"), false},
		{named("a", "b", "c", "d", "e", "e"), false},
		{named("a", "b", "c", "d", "f", "e"), false},

		{impl.Desk{Names: []string{"a"}}, false}, // more names than lists and fewer
		{impl.Desk{Names: []string{"a", "b"}, Lists: [][]impl.Point{nil}}, false},
		{impl.Desk{Names: []string{"a"}, Lists: [][]impl.Point{nil, nil}}, false},
		{impl.Desk{Lists: [][]impl.Point{nil}}, false},
		{impl.Desk{Lists: [][]impl.Point{at(1, 1)}}, false},
		{impl.Desk{Names: strings.Split("abcdef", ""), Lists: make([][]impl.Point, 5)}, false},
		{impl.Desk{Names: strings.Split("abcde", ""), Lists: make([][]impl.Point, 6)}, false},
		{impl.Desk{Names: strings.Split("abcdef", ""), Lists: make([][]impl.Point, 7)}, false},
		{impl.Desk{Names: strings.Split("abcdefg", ""), Lists: make([][]impl.Point, 6)}, false},

		{listed(nil), true}, // points
		{listed([]impl.Point{}), true},
		{listed(at(0, 0)), true},
		{listed(at(99, 99, 0, 99, 99, 0)), true},
		{listed(at(3, 4, 3, 4)), true},
		{listed(square(5)[:24]), true},
		{listed(square(5)), false},
		{listed(repeated(impl.Point{X: 7, Y: 7}, 24)), true},
		{listed(repeated(impl.Point{X: 7, Y: 7}, 25)), false},
		{listed(nil, repeated(impl.Point{X: 7, Y: 7}, 25)), false},
		{listed(nil, nil, nil, nil, nil, square(5)), false},
		{listed(square(5), nil), false},
		{listed(slices.Repeat([][]impl.Point{square(5)[:24]}, 6)...), true},
		{listed(at(100, 0)), false},
		{listed(at(0, 100)), false},
		{listed(at(-1, 0)), false},
		{listed(at(0, -1)), false},
		{listed(at(0, 0, 100, 0)), false},
		{listed(at(100, 0, 0, 0)), false},
		{listed(nil, at(0, 0, 100, 0)), false},
		{listed(at(-1, 0), nil), false},
	} {
		if got := checkDesk(t, row.d); got != row.want {
			t.Errorf("valid %s: the test's own rule tells %v", brief(row.d), got)
		}
	}
	for _, p := range strangers() {
		if checkDesk(t, listed(nil, []impl.Point{{X: 1, Y: 1}, p})) {
			t.Errorf("valid with %v", p)
		}
	}
}

// TestPromise12ChangedDesks makes one change in desks.
func TestPromise12ChangedDesks(t *testing.T) {
	dice := lineDice{rand.New(rand.NewSource(251))}
	valid := map[bool]int{}
	for range 400 {
		d := dice.shelf(8).desk()
		if !checkDesk(t, d) {
			t.Errorf("not valid: %s", brief(d))
		}
		for range 4 {
			valid[checkDesk(t, changedDesk(dice, copyOfDesk(d)))]++
		}
	}
	if min(valid[true], valid[false]) < 300 {
		t.Errorf("too few are valid, or not: %v", valid)
	}
}

// changedDesk has a change in a list or in names, of which there can be more or
// fewer then.
func changedDesk(dice lineDice, d impl.Desk) impl.Desk {
	i := 0
	if len(d.Names) > 0 {
		i = dice.Intn(len(d.Names))
	}
	switch change := dice.Intn(7); {
	case change == 0 || len(d.Names) == 0:
		d.Names = slices.Insert(d.Names, i, dice.name())
	case change == 1:
		d.Lists = slices.Delete(d.Lists, i, i+1)
	case change == 2:
		d.Names = slices.Delete(d.Names, i, i+1)
		d.Lists = slices.Delete(d.Lists, i, i+1)
	case change == 3:
		d.Names[i] = dice.name()
	case change == 4:
		k := dice.Intn(len(d.Names))
		d.Names[i], d.Names[k] = d.Names[k], d.Names[i]
	case change == 5:
		d.Lists[i] = append(d.Lists[i], pick(dice, append(strangers(), at(0, 0, 99, 99, 5, 5)...)...))
	default:
		d.Lists[i] = append(d.Lists[i], dice.points()...)
	}
	return d
}

package tests

import (
	"fmt"
	"slices"
	"testing"

	"loop.example/g01149/impl"
)

// guarded is a list whose unused capacity is watched, too.
type guarded[T comparable] struct {
	list   []T
	memory []T
	before []T
}

func guard[T comparable](list []T, spare T) *guarded[T] {
	memory := slices.Clone(list)
	for range 8 {
		memory = append(memory, spare)
	}
	memory = slices.Clip(memory)
	return &guarded[T]{list: memory[:len(list)], memory: memory, before: slices.Clone(memory)}
}

func (g *guarded[T]) changed() bool {
	return !slices.Equal(g.memory, g.before)
}

// guardLists guards each list, and the list of them with its unused capacity.
func guardLists[T comparable](lists [][]T, spare T) ([][]T, func() bool) {
	var guards []*guarded[T]
	outer := make([][]T, 0, len(lists)+4)
	for _, list := range lists {
		guards = append(guards, guard(list, spare))
		outer = append(outer, guards[len(guards)-1].list)
	}
	changed := func() bool {
		for i, g := range guards {
			if g.changed() || !slices.Equal(outer[i], g.list) {
				return true
			}
		}
		return slices.ContainsFunc(outer[len(outer):cap(outer)], func(list []T) bool { return list != nil })
	}
	return outer, changed
}

type call struct {
	name    string
	reports bool // whether the only result is a bool that never means failure
	run     func() []any
	changed func() bool
}

func unchangeable() bool { return false }

// overwrite fills the lists of all results, and their unused capacity, each
// with a value of its own. It reports whether two of them share memory.
func overwrite(all []any) bool {
	var points [][]impl.Point
	var numbers [][]int64
	var merges [][]impl.Merge
	var rules [][]impl.Rule
	var shapes [][]impl.Shape
	var texts [][]string
	for _, result := range all {
		switch v := result.(type) {
		case []impl.Point:
			points = append(points, v)
		case []int64:
			numbers = append(numbers, v)
		case []impl.Merge:
			merges = append(merges, v)
		case [][]int64:
			numbers = append(numbers, v[:cap(v)]...)
			clear(v)
		case impl.Channel:
			numbers = append(numbers, v.Top, v.Bottom)
		case impl.Maze:
			numbers = append(numbers, v.Cells[:cap(v.Cells)]...)
			clear(v.Cells)
		case [][]impl.Point:
			points = append(points, v[:cap(v)]...)
			clear(v)
		case impl.Grid:
			numbers = append(numbers, slices.Concat(v.Across[:cap(v.Across)], v.Up[:cap(v.Up)])...)
			clear(v.Across)
			clear(v.Up)
		case impl.Wiring:
			numbers = append(numbers, slices.Concat(v.Crossings[:cap(v.Crossings)], v.Joints[:cap(v.Joints)], [][]int64{v.Fixed})...)
			clear(v.Crossings)
			clear(v.Joints)
		case impl.Press:
			rules = append(rules, v.Rules)
		case []impl.Shape:
			shapes = append(shapes, v)
		case []string:
			texts = append(texts, v)
		case impl.Desk:
			texts = append(texts, v.Names)
			points = append(points, v.Lists[:cap(v.Lists)]...)
			clear(v.Lists)
		}
	}
	shared := fill(points, func(i int) impl.Point { return impl.Point{X: -77, Y: -int64(i)} })
	shared = fill(merges, func(i int) impl.Merge { return impl.Merge{Delay: -77 - int64(i)} }) || shared
	shared = fill(rules, func(i int) impl.Rule { return impl.Rule{From: -77, To: -int64(i)} }) || shared
	shared = fill(shapes, func(i int) impl.Shape { return impl.Shape{X: -77, Y: -int64(i)} }) || shared
	shared = fill(texts, func(i int) string { return fmt.Sprint("text ", i) }) || shared
	return fill(numbers, func(i int) int64 { return -77 - int64(i) }) || shared
}

func fill[T comparable](lists [][]T, value func(i int) T) bool {
	for i, list := range lists {
		list = list[:cap(list)]
		for j := range list {
			list[j] = value(i)
		}
	}
	for i, list := range lists {
		for _, item := range list[:cap(list)] {
			if item != value(i) {
				return true
			}
		}
	}
	return false
}

// isZero reports whether a result is a zero value, or an empty list.
func isZero(result any) bool {
	switch v := result.(type) {
	case int64:
		return v == 0
	case string:
		return v == ""
	case impl.Point:
		return v == impl.Point{}
	case []impl.Point:
		return len(v) == 0
	case []int64:
		return len(v) == 0
	case [][]int64:
		return len(v) == 0
	case impl.Region:
		return v == impl.Region{}
	case impl.Merge:
		return v == impl.Merge{}
	case []impl.Merge:
		return len(v) == 0
	case impl.Channel:
		return len(v.Top) == 0 && len(v.Bottom) == 0
	case impl.Maze:
		return len(v.Cells) == 0
	case [][]impl.Point:
		return len(v) == 0
	case impl.Grid:
		return len(v.Across) == 0 && len(v.Up) == 0
	case impl.Wiring:
		return v.Segments == 0 && len(v.Crossings) == 0 && len(v.Joints) == 0 && len(v.Fixed) == 0
	case impl.Press:
		return v.Parts == 0 && len(v.Rules) == 0
	case []impl.Shape:
		return len(v) == 0
	case []string:
		return len(v) == 0
	case impl.Desk:
		return len(v.Names) == 0 && len(v.Lists) == 0
	}
	return false
}

func runGuarded(t *testing.T, c call) []any {
	t.Helper()
	defer func() {
		if cause := recover(); cause != nil {
			t.Errorf("%s panics: %v", c.name, cause)
		}
	}()
	got := c.run()
	if c.changed() {
		t.Errorf("%s modifies its argument", c.name)
	}
	return got
}

// checkCalls checks what promise 1 tells of each call: it returns, modifies
// no argument, has zero values beside a false, results that are new memory,
// and the same ones when it is called again behind all other calls.
func checkCalls(t *testing.T, calls []call) {
	t.Helper()
	first := make([]string, len(calls))
	for i, c := range calls {
		got := runGuarded(t, c)
		first[i] = fmt.Sprint(got)
		if got == nil {
			continue
		}
		if ok, is := got[len(got)-1].(bool); is && !ok && !c.reports {
			for _, result := range got[:len(got)-1] {
				if !isZero(result) {
					t.Errorf("%s fails with %s", c.name, brief(result))
				}
			}
		}
		if overwrite(got) {
			t.Errorf("%s returns two lists that share memory", c.name)
		}
		if c.changed() {
			t.Errorf("%s returns memory of its argument", c.name)
		}
	}
	for i := len(calls) - 1; i >= 0; i-- {
		if again := fmt.Sprint(runGuarded(t, calls[i])); again != first[i] {
			t.Errorf("%s: first %.200s, then %.200s", calls[i].name, first[i], again)
		}
	}
}

package tests

import (
	"fmt"
	"slices"
	"testing"

	"loop.example/g01149/impl"
)

// guarded is a list whose unused capacity is watched, too.
type guarded[T comparable] struct {
	list   []T
	memory []T
	before []T
}

func guard[T comparable](list []T, spare T) *guarded[T] {
	memory := slices.Clone(list)
	for range 8 {
		memory = append(memory, spare)
	}
	memory = slices.Clip(memory)
	return &guarded[T]{list: memory[:len(list)], memory: memory, before: slices.Clone(memory)}
}

func (g *guarded[T]) changed() bool {
	return !slices.Equal(g.memory, g.before)
}

type call struct {
	name    string
	reports bool // whether the only result is a bool that never means failure
	run     func() []any
	changed func() bool
}

func unchangeable() bool { return false }

// overwrite fills a result that is a list, and its unused capacity.
func overwrite(result any) {
	switch list := result.(type) {
	case []impl.Point:
		list = list[:cap(list)]
		for i := range list {
			list[i] = impl.Point{X: -77, Y: -77}
		}
	case []int64:
		list = list[:cap(list)]
		for i := range list {
			list[i] = -77
		}
	}
}

// isZero reports whether a result is a zero value, or an empty list.
func isZero(result any) bool {
	switch v := result.(type) {
	case int64:
		return v == 0
	case string:
		return v == ""
	case impl.Point:
		return v == impl.Point{}
	case []impl.Point:
		return len(v) == 0
	case []int64:
		return len(v) == 0
	}
	return false
}

func runGuarded(t *testing.T, c call) []any {
	t.Helper()
	defer func() {
		if cause := recover(); cause != nil {
			t.Errorf("%s panics: %v", c.name, cause)
		}
	}()
	got := c.run()
	if c.changed() {
		t.Errorf("%s modifies its argument", c.name)
	}
	return got
}

// checkCalls checks what promise 1 tells of each call: it returns, modifies
// no argument, has zero values beside a false, results that are new memory,
// and the same ones when it is called again behind all other calls.
func checkCalls(t *testing.T, calls []call) {
	t.Helper()
	first := make([]string, len(calls))
	for i, c := range calls {
		got := runGuarded(t, c)
		first[i] = fmt.Sprintf("%.2000v", got)
		if got == nil {
			continue
		}
		if ok, is := got[len(got)-1].(bool); is && !ok && !c.reports {
			for _, result := range got[:len(got)-1] {
				if !isZero(result) {
					t.Errorf("%s fails with %.100v", c.name, result)
				}
			}
		}
		for _, result := range got {
			overwrite(result)
		}
		if c.changed() {
			t.Errorf("%s returns memory of its argument", c.name)
		}
	}
	for i := len(calls) - 1; i >= 0; i-- {
		if again := fmt.Sprintf("%.2000v", runGuarded(t, calls[i])); again != first[i] {
			t.Errorf("%s: first %.200s, then %.200s", calls[i].name, first[i], again)
		}
	}
}

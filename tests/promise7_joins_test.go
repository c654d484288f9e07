package tests

import (
	"fmt"
	"math"
	"math/rand"
	"slices"
	"testing"

	"loop.example/g01149/impl"
)

func TestPromise7IsJoins(t *testing.T) {
	for _, row := range []struct {
		count int64
		joins [][]int64
		want  bool
	}{
		{2, lists("0 1"), true},
		{3, lists("0 1|2 3"), true},
		{3, lists("0 2|1 3"), true},
		{4, lists("0 1|2 3|4 5"), true},
		{4, lists("2 3|0 1|4 5"), true}, // in whatever order
		{4, lists("0 3|2 4|1 5"), true},
		{12, chainJoins(12), true},
		{13, chainJoins(13), false}, // MaxLeaves and one more
		{1, nil, false},
		{1, lists("0 1"), false},
		{0, nil, false},
		{-1, nil, false},
		{2, nil, false}, // too few joins
		{3, lists("0 1"), false},
		{2, lists("0 1|2 3"), false}, // too many joins
		{3, lists("0 1|2 3|4 5"), false},
		{3, lists("0 1|0 2"), false}, // a node twice
		{3, lists("0 1|1 3"), false},
		{4, lists("0 1|2 4|2 5"), false},
		{3, lists("0 3|1 2"), false}, // a node that is not made yet
		{4, lists("0 1|2 5|3 4"), false},
		{2, lists("0 2"), false}, // a node that is never made
		{3, lists("0 1|3 4"), false},
		{3, lists("0 1|2 4"), false},
		{2, lists("-1 1"), false}, // a node below 0
		{2, lists("-1 0"), false},
		{3, lists("0 1|-1 3"), false},
		{2, lists("0 0"), false}, // equal nodes
		{2, lists("1 1"), false},
		{3, lists("0 1|3 3"), false},
		{2, lists("1 0"), false}, // the greater one first
		{3, lists("0 1|3 2"), false},
		{2, lists("0"), false}, // lists of one node, and of three
		{2, lists("0 1 2"), false},
		{3, lists("0 1 2|3 4"), false},
		{3, lists("0 1|2 3 4"), false},
		{3, lists("0 1|3"), false},
		{2, [][]int64{nil}, false},
		{3, [][]int64{{0, 1}, {}}, false},
		{2, [][]int64{{0, 64}}, false}, // far outside
		{2, [][]int64{{0, 65}}, false},
		{2, [][]int64{{-64, 1}}, false},
		{2, [][]int64{{math.MinInt64, 1}}, false},
		{2, [][]int64{{0, math.MaxInt64}}, false},
		{2, [][]int64{{math.MinInt64, math.MaxInt64}}, false},
		{math.MaxInt64, lists("0 1"), false},
		{math.MinInt64, lists("0 1"), false},
	} {
		same(t, fmt.Sprint("IsJoins ", row.count, row.joins), impl.IsJoins(row.count, row.joins), row.want)
	}
}

// TestPromise7SmallJoins tries all lists of pairs of few nodes.
func TestPromise7SmallJoins(t *testing.T) {
	for count, want := range map[int64]int{2: 1, 3: 3, 4: 18} {
		found := 0
		joins := make([][]int64, count-1)
		var fill func(i int)
		fill = func(i int) {
			if i == len(joins) {
				is := isJoinsByRule(count, joins)
				if impl.IsJoins(count, joins) != is {
					t.Errorf("IsJoins %d, %v: not %t", count, joins, is)
				}
				if is {
					found++
				}
				return
			}
			for low := int64(-1); low < 2*count; low++ {
				for high := int64(-1); high < 2*count; high++ {
					joins[i] = []int64{low, high}
					fill(i + 1)
				}
			}
		}
		fill(0)
		same(t, fmt.Sprint("joins of ", count), found, want)
	}
}

// TestPromise7ChangedJoins changes joins of all numbers of pins a little.
func TestPromise7ChangedJoins(t *testing.T) {
	dice := rand.New(rand.NewSource(103))
	still, broken := 0, 0
	for i := range 3000 {
		count := 2 + i%11
		joins := diceJoins(dice, count)
		same(t, fmt.Sprint("IsJoins ", count, joins), impl.IsJoins(int64(count), joins), true)
		k, side := dice.Intn(len(joins)), dice.Intn(2)
		switch dice.Intn(4) {
		case 0:
			joins[k][side] += dice.Int63n(5) - 2
		case 1:
			other := dice.Intn(len(joins))
			joins[k], joins[other] = joins[other], joins[k]
		case 2:
			other := dice.Intn(len(joins))
			joins[k][side], joins[other][side] = joins[other][side], joins[k][side]
		default:
			joins = slices.Delete(joins, k, k+1)
		}
		is := isJoinsByRule(int64(count), joins)
		same(t, fmt.Sprint("IsJoins ", count, joins), impl.IsJoins(int64(count), joins), is)
		if is {
			still++
		} else {
			broken++
		}
	}
	if still < 300 || broken < 300 {
		t.Errorf("too few are still joins, %d, or not, %d", still, broken)
	}
}

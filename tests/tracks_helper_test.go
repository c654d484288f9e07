package tests

import (
	"math"
	"slices"
	"testing"

	"loop.example/g01149/impl"
)

// kind is what lies in tracks: whole nets, or pieces of nets.
type kind struct {
	isRouting func(impl.Channel, [][]int64) bool
	fewest    func(impl.Channel) ([][]int64, bool)
	pieces    func(impl.Channel) map[int64][]int64
}

func netKind() kind {
	return kind{isRouting: impl.IsRouting, fewest: impl.FewestTracks, pieces: wholePieces}
}

func pieceKind() kind {
	return kind{isRouting: impl.IsPieceRouting, fewest: impl.FewestWithDoglegs, pieces: numberedPieces}
}

// check compares what is reported of tracks with the rules, and returns it.
func (k kind) check(t *testing.T, c impl.Channel, tracks [][]int64) bool {
	t.Helper()
	want := keepRules(c, k.pieces(c), tracks)
	if got := k.isRouting(c, tracks); got != want {
		t.Errorf("routing of %v by %v: got %v", c, tracks, got)
	}
	return want
}

// checkAll checks all tracks of channels that have few pieces.
func (k kind) checkAll(t *testing.T, most int, visitChannels func(check func(impl.Channel))) {
	t.Helper()
	counts := map[bool]int{}
	visitChannels(func(c impl.Channel) {
		if pieces := k.pieces(c); len(pieces) <= most {
			allTracks(keysOf(pieces), func(tracks [][]int64) { counts[k.check(t, c, tracks)]++ })
		}
	})
	if counts[true] < 5000 || counts[false] < 5000 {
		t.Errorf("too few tracks are tried: %v", counts)
	}
}

// checkChanged checks tracks that differ a little from a routing.
func (k kind) checkChanged(t *testing.T, c impl.Channel) {
	t.Helper()
	tracks, ok := k.fewest(c)
	if !ok {
		tracks = lists("0|1|2")
	}
	k.check(t, c, tracks)
	eachChange(tracks, func(changed [][]int64) { k.check(t, c, changed) })
}

// handRow is a channel with tracks of which the document tells all.
type handRow struct {
	top, bottom string
	tracks      string
	want        bool
}

func (row handRow) channel(t *testing.T) impl.Channel {
	t.Helper()
	c := channel(row.top, row.bottom)
	if !isChannel(c) {
		t.Errorf("%v is no channel", c)
	}
	return c
}

func (k kind) checkByHand(t *testing.T, rows []handRow) {
	t.Helper()
	for _, row := range rows {
		c := row.channel(t)
		if got := k.check(t, c, lists(row.tracks)); got != row.want {
			t.Errorf("routing of %v by %s: got %v", c, row.tracks, got)
		}
	}
}

// checkFewestByHand has for each channel the tracks, and whether there are any.
func (k kind) checkFewestByHand(t *testing.T, rows []handRow) {
	t.Helper()
	for _, row := range rows {
		c := row.channel(t)
		tracks, ok := k.fewest(c)
		same(t, "fewest tracks of "+brief(c), results(tracks, ok), results(lists(row.tracks), row.want))
	}
}

// eachChange calls visit with tracks that differ a little from some.
func eachChange(tracks [][]int64, visit func([][]int64)) {
	for i := range tracks {
		visit(slices.Delete(slices.Clone(tracks), i, i+1))
		visit(slices.Insert(slices.Clone(tracks), i, numbers("")))
		visit(slices.Insert(slices.Clone(tracks), i, tracks[i]))
		visit(append(slices.Clone(tracks), tracks[i]))
		for j := range i {
			swapped := slices.Clone(tracks)
			swapped[i], swapped[j] = swapped[j], swapped[i]
			visit(swapped)
		}
		for _, list := range changesOf(tracks[i]) {
			changed := slices.Clone(tracks)
			changed[i] = list
			visit(changed)
		}
	}
	visit(append(slices.Clone(tracks), numbers("")))
	for _, n := range []int64{0, 1, 11, 12, 13} {
		visit(append(slices.Clone(tracks), []int64{n}))
	}
}

// changesOf returns lists with one number more, less or another one, and
// such with two numbers exchanged.
func changesOf(list []int64) [][]int64 {
	var changes [][]int64
	for i := range list {
		changes = append(changes, slices.Delete(slices.Clone(list), i, i+1), slices.Insert(slices.Clone(list), i, list[i]))
		for _, n := range []int64{-1, 0, 5, 12, 13, list[i] + 64, list[i] - 64, list[i] + 1<<32, math.MinInt64, math.MaxInt64} {
			changed := slices.Clone(list)
			changed[i] = n
			changes = append(changes, changed, append(slices.Clone(list), n), append([]int64{n}, list...))
		}
		for j := range i {
			swapped := slices.Clone(list)
			swapped[i], swapped[j] = swapped[j], swapped[i]
			changes = append(changes, swapped)
		}
	}
	return changes
}

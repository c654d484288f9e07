package tests

import (
	"fmt"
	"slices"
	"testing"

	"loop.example/g01149/impl"
)

func TestPromise4Pieces(t *testing.T) {
	check := func(c impl.Channel) {
		want := make([][]int64, len(numberedPieces(c)))
		for i, p := range numberedPieces(c) {
			want[i] = p
		}
		pieces, ok := impl.PiecesOf(c)
		same(t, "pieces of "+brief(c), results(pieces, ok), results(want, true))
	}
	tinyChannels(check)
	wideChannels(2000, check)
	sparseChannels(200, check)
}

func TestPromise4PiecesByHand(t *testing.T) {
	for _, row := range []struct {
		top, bottom string
		pieces      string
	}{
		{"0", "0", ""},
		{"1", "1", ""},
		{"1 1", "1 1", "1 0 1"},
		{"1 2 0 1", "0 1 2 2", "1 0 1|1 1 3|2 1 2|2 2 3"},
		{"12 1 12 1 12", "0 0 0 0 0", "1 1 3|12 0 2|12 2 4"},
		{"3 5 0 3", "0 5 3 0", "3 0 2|3 2 3"}, // the net 5 needs no track
		{"3 0 3 0 0 3", "3 0 3 0 0 0", "3 0 2|3 2 5"},
	} {
		c := channel(row.top, row.bottom)
		pieces, ok := impl.PiecesOf(c)
		same(t, "pieces of "+brief(c), results(pieces, ok), results(lists(row.pieces), true))
	}
	full := impl.Channel{Top: slices.Repeat([]int64{12}, 24), Bottom: slices.Repeat([]int64{1}, 24)}
	pieces, ok := impl.PiecesOf(full)
	same(t, "as many pieces as there can be", results(len(pieces), pieces[22], pieces[23], pieces[45], ok), results(46, numbers("1 22 23"), numbers("12 0 1"), numbers("12 22 23"), true))
	same(t, "routing of all pieces", impl.IsPieceRouting(full, [][]int64{counting(23, 23), counting(0, 23)}), true)
	same(t, "no routing of all pieces", impl.IsPieceRouting(full, [][]int64{counting(0, 23), counting(23, 23)}), false)
	same(t, "no routing of all pieces but one", impl.IsPieceRouting(full, [][]int64{counting(23, 22), counting(0, 23)}), false)
	same(t, "no routing of one piece more", impl.IsPieceRouting(full, [][]int64{counting(23, 24), counting(0, 23)}), false)
}

func TestPromise4IsPieceRouting(t *testing.T) {
	pieceKind().checkAll(t, 5, func(check func(impl.Channel)) {
		tinyChannels(check)
		smallChannels(600, 3, check)
	})
}

func TestPromise4WrongPieceTracks(t *testing.T) {
	check := func(c impl.Channel) { pieceKind().checkChanged(t, c) }
	tinyChannels(check)
	smallChannels(100, 3, check)
	smallChannels(100, 5, check)
	wideChannels(200, check)
}

func TestPromise4PieceRoutingsByHand(t *testing.T) {
	pieceKind().checkByHand(t, []handRow{
		{"1 2 0 1", "0 1 2 2", "2|0 1|3", true},
		{"1 2 0 1", "0 1 2 2", "2|0|1|3", true},
		{"1 2 0 1", "0 1 2 2", "2|1|0|3", true},  // pieces of one net in any order
		{"1 2 0 1", "0 1 2 2", "0 1|2|3", false}, // at the column 1, all pieces of 2 are above those of 1
		{"1 2 0 1", "0 1 2 2", "2|0 1 3", false},
		{"1 2 0 1", "0 1 2 2", "2|3|0 1", false}, // at the column 3, the piece of 1 is above that of 2
		{"1 2 0 1", "0 1 2 2", "0|2|1|3", false},
		{"1 2 0 1", "0 1 2 2", "2 3|0 1", false},
		{"1 2 0 1", "0 1 2 2", "2|0 1", false}, // one is missing
		{"1 2 0 1", "0 1 2 2", "2|0 1|3|2", false},
		{"1 2 0 1", "0 1 2 2", "2|0 1||3", false},
		{"1 2 0 1", "0 1 2 2", "2|1 0|3", false},
		{"1 2 0 1", "0 1 2 2", "2|0 0 1|3", false},
		{"1 2 0 1", "0 1 2 2", "2|0 1|3|4", false},
		{"1 2 0 1", "0 1 2 2", "2|0 1|-1 3", false},
		{"1 1 1", "0 0 0", "0 1", true}, // pieces of one net that meet in a column
		{"1 1 1", "0 0 0", "0|1", true},
		{"1 1 1", "0 0 0", "1|0", true},
		{"1 1 0", "0 2 2", "0 1", false}, // pieces of different nets that meet in a column
		{"1 1 0", "0 2 2", "0|1", true},
		{"1 1 0", "0 2 2", "1|0", false},
		{"1 1 2 2", "0 0 0 0", "0 1", true},
		{"1 2 1 0 2", "0 0 0 0 0", "0 1", false}, // that have more columns in common
		{"1 2 1 0 2", "0 0 0 0 0", "1|0", true},
		{"1 2 1", "0 2 0", "0", true},         // the net 2 needs no track
		{"1 1 1 2", "0 2 0 2", "0 1|2", true}, // both pieces of 1 are above the one of 2
		{"1 1 1 2", "0 2 0 2", "0|1|2", true},
		{"1 1 1 2", "0 2 0 2", "0|2|1", false},
		{"1 1 1 2", "0 2 0 2", "1|2|0", false},
		{"0", "0", "", true},
		{"1", "1", "", true},
		{"1", "1", "0", false},
		{"0", "0", " ", false},
	})
}

func TestPromise4Doglegs(t *testing.T) {
	less, none, all := 0, 0, 0
	check := func(c impl.Channel) {
		pieces := numberedPieces(c)
		if len(pieces) > 6 || len(pieces) == 6 && all > 150 {
			return
		}
		if len(pieces) == 6 {
			all++
		}
		want, found := fewestOfAll(c, pieces)
		tracks, ok := impl.FewestWithDoglegs(c)
		same(t, "fewest with doglegs of "+brief(c), results(tracks, ok), results(want, found))
		whole, ok := impl.FewestTracks(c)
		if found && (!ok || len(tracks) < len(whole)) {
			less++
		}
		if !found {
			none++
		}
	}
	tinyChannels(check)
	smallChannels(1000, 3, check)
	smallChannels(2000, 4, check)
	smallChannels(1000, 6, check)
	if less < 50 || none < 50 || all < 100 {
		t.Errorf("too few channels have less tracks with doglegs, %d, none, %d, or six pieces, %d", less, none, all)
	}
}

// TestPromise4DoglegsWide has more pieces than for which all tracks can be
// tried: it tries whether one track less suffices.
func TestPromise4DoglegsWide(t *testing.T) {
	tried, many, none := 0, 0, 0
	check := func(c impl.Channel) {
		pieces := numberedPieces(c)
		tracks, ok := impl.FewestWithDoglegs(c)
		if len(pieces) > impl.MaxPieces {
			many++
			same(t, "too many pieces of "+brief(c), results(tracks, ok), results(lists(""), false))
			return
		}
		if !ok {
			none++
			same(t, "no piece routing of "+brief(c), results(tracks, haveRing(c, pieces)), results(lists(""), true))
			return
		}
		same(t, fmt.Sprint("piece routing of ", c, " by ", tracks), results(impl.IsPieceRouting(c, tracks), keepRules(c, pieces, tracks)), results(true, true))
		density, _ := impl.DensityOf(c)
		if int64(len(tracks)) < density {
			t.Errorf("%v has less tracks than its density %d: %v", c, density, tracks)
		}
		if int64(len(tracks)) > density {
			tried++
			same(t, "less tracks of "+brief(c), fitInto(c, pieces, len(tracks)-1), false)
		}
		if whole, ok := impl.FewestTracks(c); ok && len(whole) < len(tracks) {
			t.Errorf("%v has less tracks without doglegs: %v", c, whole)
		}
	}
	wideChannels(1500, check)
	smallChannels(1500, 4, check)
	sparseChannels(500, check)
	if tried < 100 || many < 100 || none < 20 {
		t.Errorf("too few channels need more tracks than their density, %d, have too many pieces, %d, or no routing, %d", tried, many, none)
	}
}

func TestPromise4MaxPieces(t *testing.T) {
	row := func(columns int) impl.Channel {
		return impl.Channel{Top: slices.Repeat([]int64{7}, columns), Bottom: make([]int64, columns)}
	}
	tracks, ok := impl.FewestWithDoglegs(row(impl.MaxPieces + 1))
	same(t, "12 pieces", results(tracks, ok), results([][]int64{counting(0, 12)}, true))
	tracks, ok = impl.FewestWithDoglegs(row(impl.MaxPieces + 2))
	same(t, "13 pieces", results(tracks, ok), results(lists(""), false))
	pieces, ok := impl.PiecesOf(row(impl.MaxPieces + 2))
	same(t, "pieces of 13", results(len(pieces), ok), results(13, true))
	same(t, "routing of 13", impl.IsPieceRouting(row(impl.MaxPieces+2), [][]int64{counting(0, 13)}), true)
	// A net with just one column more has no piece.
	more := row(impl.MaxPieces + 1)
	more.Top, more.Bottom = append(more.Top, 3), append(more.Bottom, 3)
	tracks, ok = impl.FewestWithDoglegs(more)
	same(t, "12 pieces and a net without one", results(tracks, ok), results([][]int64{counting(0, 12)}, true))
	pairs := impl.Channel{Top: append(counting(1, 12), counting(1, 12)...), Bottom: make([]int64, 24)}
	tracks, ok = impl.FewestWithDoglegs(pairs)
	same(t, "12 pieces of 12 nets", results(tracks, ok), results(lists("0|1|2|3|4|5|6|7|8|9|10|11"), true))
	pairs.Bottom[15] = 12
	tracks, ok = impl.FewestWithDoglegs(pairs)
	same(t, "13 pieces of 12 nets", results(tracks, ok), results(lists(""), false))
}

func TestPromise4DoglegsByHand(t *testing.T) {
	pieceKind().checkFewestByHand(t, []handRow{
		{"0", "0", "", true},
		{"1", "1", "", true},
		{"1 2", "2 1", "", false},
		{"1 2 0 1", "0 1 2 2", "2|0 1|3", true},
		{"1 2 1", "2 0 0", "0|1", true},
		{"1 1 1", "0 0 0", "0 1", true},
		{"1 1 0", "0 2 2", "0|1", true},
		{"0 1 1", "2 2 0", "0|1", true},
		{"1 2 1 2", "0 0 0 0", "0|1", true},
		{"1 2 1 2 1", "0 0 0 0 0", "0 1|2", true},
		{"1 2 1 2 2", "0 0 0 0 0", "0|1 2", true},
		{"1 1 0 2", "0 2 2 0", "0|1 2", true},
		{"1 2 3 0 1", "2 3 1 0 0", "", false}, // a cycle of pieces
	})
}

package tests

import (
	"math"
	"math/rand"
	"slices"
	"strings"
	"testing"

	"loop.example/g01149/impl"
)

// checkPicture compares a picture with its rows, and each byte of it with the
// points; it returns how many are points.
func checkPicture(t *testing.T, list []impl.Point, width, height int64) int {
	t.Helper()
	what := brief(width, " by ", height, " of ", list)
	picture, ok := impl.PictureOf(list, width, height)
	same(t, "picture "+what, results(picture, ok), results(scriptOf(pictureByRule(list, width, height)...), true))
	if int64(len(picture)) != (width+1)*height {
		t.Errorf("picture %s has %d bytes", what, len(picture))
		return 0
	}
	for _, p := range list {
		if p.X < width && p.Y < height && picture[(height-1-p.Y)*(width+1)+p.X] != '#' {
			t.Errorf("picture %s does not show %v", what, p)
		}
	}
	return strings.Count(picture, "#")
}

func TestPromise12PicturesByHand(t *testing.T) {
	wide := strings.Repeat(".", 38)
	for _, row := range []struct {
		list          []impl.Point
		width, height int64
		picture       string
	}{
		{nil, 1, 1, "."}, // no points
		{nil, 3, 2, ".../..."},
		{at(), 2, 3, "../../.."},
		{at(0, 0), 1, 1, "#"},
		{at(0, 0, 2, 0, 1, 2), 3, 3, ".#./.../#.#"},
		{at(1, 0), 2, 2, "../.#"},
		{at(0, 1), 2, 2, "#./.."},
		{at(0, 0, 3, 0, 0, 2, 3, 2), 4, 3, "#..#/..../#..#"}, // all four corners
		{at(0, 0, 39, 0, 0, 39, 39, 39), 40, 40, "#" + wide + "#/" + strings.Repeat(wide+"../", 38) + "#" + wide + "#"},
		{at(4, 0, 0, 3, 4, 3, 4, 2, 3, 3), 4, 3, "..../..../...."}, // just outside
		{at(40, 0, 0, 40, 40, 40), 40, 40, strings.Repeat(wide+"../", 39) + wide + ".."},
		{at(99, 99, 0, 99, 99, 0, 1, 1), 2, 2, ".#/.."},
		{at(1, 0, 0, 1), 1, 1, "."},
		{at(1, 1, 1, 1, 1, 1), 3, 2, ".#./..."}, // equal points
		{repeated(impl.Point{X: 2, Y: 0}, 24), 3, 1, "..#"},
		{square(4), 4, 4, "####/####/####/####"},
		{square(3), 4, 4, "..../###./###./###."},
		{at(0, 0, 1, 1, 2, 2), 3, 2, ".#./#.."},
		{at(5, 0), 40, 1, strings.Repeat(".", 5) + "#" + strings.Repeat(".", 34)},
		{at(0, 5), 1, 7, "./#/././././."},
	} {
		picture, ok := impl.PictureOf(row.list, row.width, row.height)
		same(t, brief("picture of ", row.list), results(picture, ok), results(strings.ReplaceAll(row.picture, "/", "\n")+"\n", true))
		checkPicture(t, row.list, row.width, row.height)
	}
}

func TestPromise12Pictures(t *testing.T) {
	for count := range 4 {
		listsOver(square(4), count, func(list []impl.Point) {
			for width := int64(1); width <= 4; width++ {
				for height := int64(1); height <= 4; height++ {
					checkPicture(t, list, width, height)
				}
			}
		})
	}
}

func TestPromise12SomePictures(t *testing.T) {
	dice := lineDice{rand.New(rand.NewSource(271))}
	inside, outside := 0, 0
	for range 1500 {
		side := 1 + dice.Intn(100)
		list := dicePins(dice.Rand, dice.Intn(24), side, 1+dice.Intn(100))
		if len(list) > 0 {
			list = append(list, list[0])
		}
		shown := checkPicture(t, list, 1+dice.Int63n(40), 1+dice.Int63n(40))
		inside += shown
		outside += max(0, len(list)-1-shown)
	}
	if min(inside, outside) < 3000 {
		t.Errorf("too few points are inside, %d, or outside, %d", inside, outside)
	}
}

func TestPromise12PictureSides(t *testing.T) {
	for width := int64(-2); width <= 43; width++ {
		for height := int64(-2); height <= 43; height++ {
			picture, ok := impl.PictureOf(at(1, 1), width, height)
			want := ""
			fits := width > 0 && width < 41 && height > 0 && height < 41
			if fits {
				want = scriptOf(pictureByRule(at(1, 1), width, height)...)
			}
			same(t, brief(width, " by ", height), results(picture, ok), results(want, fits))
		}
	}
	for _, n := range []int64{math.MinInt64, math.MaxInt64, 1 << 32, 1<<32 + 1, -1 << 32, 100, 256, 257, 1000000000} {
		for _, sides := range [][2]int64{{n, 1}, {1, n}, {n, n}, {n, 40}, {40, n}} {
			picture, ok := impl.PictureOf(nil, sides[0], sides[1])
			same(t, brief(sides), results(picture, ok), results("", false))
		}
	}
}

// TestPromise12NoPictures has lists that are no points.
func TestPromise12NoPictures(t *testing.T) {
	lists := [][]impl.Point{square(5), repeated(impl.Point{X: 1, Y: 1}, 25), slices.Repeat(at(0, 0), 1000)}
	for _, p := range strangers() {
		lists = append(lists, []impl.Point{p}, []impl.Point{{X: 1, Y: 1}, p}, []impl.Point{p, {X: 1, Y: 1}})
	}
	for _, list := range lists {
		for _, side := range []int64{1, 2, 40} {
			picture, ok := impl.PictureOf(list, side, side)
			same(t, brief("picture of ", list), results(picture, ok), results("", false))
		}
	}
	picture, ok := impl.PictureOf(square(5)[:24], 5, 5)
	same(t, "picture of MaxPoints points", results(picture, ok), results("####.\n#####\n#####\n#####\n#####\n", true))
}

package impl

import (
	"cmp"
	"errors"
	"slices"
	"strconv"
	"strings"
)

// Limits of chapter 1.
const (
	MaxCoord  = 99
	MaxPoints = 24
	MaxValue  = 1000000000
	MaxItems  = 60
	CheckSize = 65521
)

const (
	maxName = 8
	maxPath = MaxPoints * MaxPoints

	itemSeparator  = ","
	pointSeparator = "."
	emptyText      = "none"
)

// Point is a point of the grid.
type Point struct {
	X int64
	Y int64
}

// path is a list that isWhole has reported to be a path.
type path []Point

// formError is a text, or a part of one, that is not the text of any value.
type formError struct {
	text string
}

func (e *formError) Error() string {
	return "not the text of a value: " + strconv.Quote(e.text)
}

// itemError tells which item of a text is wrong.
type itemError struct {
	index int
	cause error
}

func (e *itemError) Error() string {
	return "item " + strconv.Itoa(e.index) + ": " + e.cause.Error()
}

func (e *itemError) Unwrap() error { return e.cause }

// isFormError reports whether a reader has failed: all errors of readers are
// or wrap form errors, and the package has no error codes to tell more.
func isFormError(err error) bool {
	var form *formError
	return errors.As(err, &form)
}

// IsName reports whether s is a name.
func IsName(s string) bool {
	if len(s) < 1 || len(s) > maxName {
		return false
	}
	for _, letter := range s {
		if letter < 'a' || letter > 'z' {
			return false
		}
	}
	return true
}

// Decimal returns n in decimal.
func Decimal(n int64) string { return strconv.FormatInt(n, 10) }

// ReadDecimal returns the number with the given decimal text.
func ReadDecimal(s string) (int64, bool) {
	n, err := parseDecimal(s)
	return n, !isFormError(err)
}

// parseDecimal compares with Decimal because strconv also takes signs and
// zeros in front that Decimal never writes.
func parseDecimal(s string) (int64, error) {
	n, err := strconv.ParseInt(s, 10, 64)
	if err != nil || !isItem(n) || Decimal(n) != s {
		return 0, &formError{text: s}
	}
	return n, nil
}

// IsPoint reports whether p is a point of the grid.
func IsPoint(p Point) bool { return isCoord(p.X) && isCoord(p.Y) }

func isCoord(n int64) bool { return n >= 0 && n <= MaxCoord }

// DistanceOf returns the distance of two points.
func DistanceOf(p, q Point) (int64, bool) {
	if !IsPoint(p) || !IsPoint(q) {
		return 0, false
	}
	return distance(p, q), true
}

func distance(p, q Point) int64 { return absolute(p.X-q.X) + absolute(p.Y-q.Y) }

func absolute(n int64) int64 { return max(n, -n) }

// ArePoints reports whether a list has few points of the grid.
func ArePoints(list []Point) bool {
	return len(list) <= MaxPoints && areOnGrid(list)
}

func areOnGrid(list []Point) bool {
	for _, p := range list {
		if !IsPoint(p) {
			return false
		}
	}
	return true
}

// BoxOf returns the corners of the box around points.
func BoxOf(list []Point) (Point, Point, bool) {
	if len(list) == 0 || !ArePoints(list) {
		return Point{}, Point{}, false
	}
	low, high := list[0], list[0]
	for _, p := range list {
		low = Point{X: min(low.X, p.X), Y: min(low.Y, p.Y)}
		high = Point{X: max(high.X, p.X), Y: max(high.Y, p.Y)}
	}
	return low, high, true
}

// NearestPoint returns the index of the nearest point.
func NearestPoint(list []Point, p Point) (int64, bool) {
	if len(list) == 0 || !ArePoints(list) || !IsPoint(p) {
		return 0, false
	}
	nearest := 0
	for i := range list {
		if distance(list[i], p) < distance(list[nearest], p) {
			nearest = i
		}
	}
	return int64(nearest), true
}

// SortPoints returns points in order, each once.
func SortPoints(list []Point) ([]Point, bool) {
	if !ArePoints(list) {
		return nil, false
	}
	sorted := slices.Clone(list)
	slices.SortFunc(sorted, comparePoints)
	return slices.Compact(sorted), true
}

func comparePoints(p, q Point) int {
	return cmp.Or(cmp.Compare(p.X, q.X), cmp.Compare(p.Y, q.Y))
}

// IsPath reports whether a list is a path.
func IsPath(list []Point) bool { return path(list).isWhole() }

// isWhole checks the grid first, so that no distance overflows.
func (p path) isWhole() bool {
	if len(p) < 1 || len(p) > maxPath || !areOnGrid(p) {
		return false
	}
	passed := make(map[Point]bool, len(p))
	for i, at := range p {
		if passed[at] || i > 0 && distance(p[i-1], at) != 1 {
			return false
		}
		passed[at] = true
	}
	return true
}

func (p path) length() int64 { return int64(len(p) - 1) }

func (p path) bendsAt(i int) bool {
	if i <= 0 || i >= len(p)-1 {
		return false
	}
	before, behind := p[i-1], p[i+1]
	return before.X != behind.X && before.Y != behind.Y
}

func (p path) bends() int64 {
	count := int64(0)
	for i := range p {
		if p.bendsAt(i) {
			count++
		}
	}
	return count
}

func (p path) corners() []Point {
	var corners []Point
	for i, at := range p {
		if i == 0 || i == len(p)-1 || p.bendsAt(i) {
			corners = append(corners, at)
		}
	}
	return corners
}

// LengthOf returns the length of a path.
func LengthOf(list []Point) (int64, bool) {
	if !IsPath(list) {
		return 0, false
	}
	return path(list).length(), true
}

// BendsOf returns the number of bends of a path.
func BendsOf(list []Point) (int64, bool) {
	if !IsPath(list) {
		return 0, false
	}
	return path(list).bends(), true
}

// CornersOf returns the corners of a path.
func CornersOf(list []Point) ([]Point, bool) {
	if !IsPath(list) {
		return nil, false
	}
	return path(list).corners(), true
}

// PathThrough returns the path with some corners. It compares the corners of
// the path because a point where a path goes straight on is none of them.
func PathThrough(corners []Point) ([]Point, bool) {
	if len(corners) == 0 || len(corners) > maxPath || !areOnGrid(corners) {
		return nil, false
	}
	list := walkAlong(corners)
	if !IsPath(list) || !slices.Equal(path(list).corners(), corners) {
		return nil, false
	}
	return list, true
}

// walkAlong returns the points from each corner to the next one. Where two
// corners are not on one line, it steps across and up at once, and what it
// returns is no path.
func walkAlong(corners []Point) []Point {
	at := corners[0]
	list := []Point{at}
	for _, corner := range corners[1:] {
		for at != corner {
			at = Point{X: stepTo(at.X, corner.X), Y: stepTo(at.Y, corner.Y)}
			list = append(list, at)
		}
	}
	return list
}

// stepTo returns the number that is one step from n towards end.
func stepTo(n, end int64) int64 { return n + int64(cmp.Compare(end, n)) }

// PointsText returns the text of points.
func PointsText(list []Point) (string, bool) {
	if !ArePoints(list) {
		return "", false
	}
	return joinItems(list, pointText), true
}

func pointText(p Point) string {
	return Decimal(p.X) + pointSeparator + Decimal(p.Y)
}

// ReadPoints returns the points with the given text.
func ReadPoints(s string) ([]Point, bool) {
	list, err := splitItems(s, MaxPoints, parsePoint)
	return list, !isFormError(err)
}

func parsePoint(s string) (Point, error) {
	across, up, found := strings.Cut(s, pointSeparator)
	if !found {
		return Point{}, &formError{text: s}
	}
	x, err := parseDecimal(across)
	if err != nil {
		return Point{}, err
	}
	y, err := parseDecimal(up)
	if err != nil {
		return Point{}, err
	}
	p := Point{X: x, Y: y}
	if !IsPoint(p) {
		return Point{}, &formError{text: s}
	}
	return p, nil
}

// ListText returns the text of a list.
func ListText(list []int64) (string, bool) {
	if !areItems(list) {
		return "", false
	}
	return joinItems(list, Decimal), true
}

func isItem(n int64) bool { return n >= -MaxValue && n <= MaxValue }

func isAmount(n int64) bool { return n >= 0 && n <= MaxValue }

func areItems(list []int64) bool {
	if len(list) > MaxItems {
		return false
	}
	for _, n := range list {
		if !isItem(n) {
			return false
		}
	}
	return true
}

// ReadList returns the list with the given text.
func ReadList(s string) ([]int64, bool) {
	list, err := splitItems(s, MaxItems, parseDecimal)
	return list, !isFormError(err)
}

// joinItems returns the text of a list, each item of which has a text.
func joinItems[T any](list []T, textOf func(T) string) string {
	if len(list) == 0 {
		return emptyText
	}
	words := make([]string, len(list))
	for i, item := range list {
		words[i] = textOf(item)
	}
	return strings.Join(words, itemSeparator)
}

// splitItems returns the list of at most limit items whose text joinItems
// writes as s. It stops at the first item that is wrong or one too many.
func splitItems[T any](s string, limit int, parse func(string) (T, error)) ([]T, error) {
	if s == emptyText {
		return nil, nil
	}
	var list []T
	word, rest, more := "", s, true
	for more {
		if len(list) == limit {
			return nil, &itemError{index: limit, cause: &formError{text: rest}}
		}
		word, rest, more = strings.Cut(rest, itemSeparator)
		item, err := parse(word)
		if err != nil {
			return nil, &itemError{index: len(list), cause: err}
		}
		list = append(list, item)
	}
	return list, nil
}

// CheckOf returns the check number of a text.
func CheckOf(start int64, s string) (int64, bool) {
	if start < 0 || start >= CheckSize {
		return 0, false
	}
	check := start
	for i := range len(s) {
		check = (211*check + int64(s[i]) + 9) % CheckSize
	}
	return check, true
}

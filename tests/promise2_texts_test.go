package tests

import (
	"fmt"
	"math"
	"math/big"
	"regexp"
	"strings"
	"testing"

	"loop.example/g01149/impl"
)

func TestPromise2IsName(t *testing.T) {
	for _, s := range []string{"a", "z", "clock", "abcdefgh", "zzzzzzzz"} {
		same(t, "IsName "+s, impl.IsName(s), true)
	}
	for _, s := range []string{"", "abcdefghi", "A", "Z", "aB", "a1", "1", "a ", " a", "a\n", "a b", "é", "aé", "ａ", "\x00", "a\xff", "`", "{", "none!"} {
		same(t, fmt.Sprintf("IsName %q", s), impl.IsName(s), false)
	}
	for b := range 256 {
		want := b >= 'a' && b <= 'z'
		for _, s := range []string{string([]byte{byte(b)}), "q" + string([]byte{byte(b)}), string([]byte{byte(b)}) + "q"} {
			same(t, fmt.Sprintf("IsName %q", s), impl.IsName(s), want)
		}
	}
	for length := range 20 {
		same(t, fmt.Sprint("IsName of length ", length), impl.IsName(strings.Repeat("k", length)), length >= 1 && length <= 8)
	}
}

func TestPromise2Decimal(t *testing.T) {
	for n, want := range map[int64]string{
		0: "0", 7: "7", -7: "-7", 10: "10", 1000000000: "1000000000", -1000000000: "-1000000000",
		math.MaxInt64: "9223372036854775807", math.MinInt64: "-9223372036854775808",
	} {
		same(t, "Decimal", impl.Decimal(n), want)
	}
	for n := int64(-1200); n <= 1200; n++ {
		same(t, "Decimal", impl.Decimal(n), fmt.Sprint(n))
		got, ok := impl.ReadDecimal(fmt.Sprint(n))
		same(t, "ReadDecimal", results(got, ok), results(n, true))
	}
}

func TestPromise2ReadDecimal(t *testing.T) {
	for _, n := range []int64{0, 1, -1, 999999999, -999999999, 1000000000, -1000000000} {
		got, ok := impl.ReadDecimal(fmt.Sprint(n))
		same(t, fmt.Sprint("ReadDecimal ", n), results(got, ok), results(n, true))
	}
	for _, s := range []string{
		"", "-", "+", "-0", "+0", "+1", "--1", "00", "01", "-01", "1-", " 1", "1 ", "1\n", "\n1", "1\x00", "1.0", "1,2", "1e3", "0x1", "1_0",
		"none", "a", "٣", "１", "−1", "1000000001", "-1000000001", "2000000000", "9223372036854775807", "-9223372036854775808",
		"9223372036854775808", "18446744073709551616", "18446744073709551617", "-18446744073709551615", strings.Repeat("1", 100),
	} {
		got, ok := impl.ReadDecimal(s)
		same(t, fmt.Sprintf("ReadDecimal %q", s), results(got, ok), results(0, false))
	}
}

func TestPromise2PointsText(t *testing.T) {
	for s, list := range map[string][]impl.Point{
		"none": nil, "0.0": at(0, 0), "99.99": at(99, 99), "1.2,4.0,1.2": at(1, 2, 4, 0, 1, 2), "10.9,9.10": at(10, 9, 9, 10),
		strings.Repeat("7.8,", 23) + "7.8": repeated(impl.Point{X: 7, Y: 8}, 24),
	} {
		text, ok := impl.PointsText(list)
		same(t, "PointsText "+s, results(text, ok), results(s, true))
		back, ok := impl.ReadPoints(s)
		same(t, "ReadPoints "+s, results(back, ok), results(list, true))
	}
	for _, list := range scattered() {
		text, one := impl.PointsText(list)
		back, two := impl.ReadPoints(text)
		same(t, "back from "+text, results(one, two, back), results(true, true, list))
	}
	for _, list := range invalidLists() {
		text, ok := impl.PointsText(list)
		same(t, fmt.Sprint("PointsText ", list), results(text, ok), results("", false))
	}
}

func TestPromise2ReadPoints(t *testing.T) {
	for _, s := range []string{
		"", "None", "none,", ",none", "none,1.2", "1.2,none", "nonenone", "1.2,", ",1.2", "1.2,,3.4", "1.2, 3.4", " 1.2", "1.2 ", "1.2\n", "1.2;3.4",
		"1", "1.", ".1", ".", "1..2", "1.2.3", "1,2", "01.2", "1.02", "1.00", "00.1", "+1.2", "1.+2", "-0.1", "1.-0", "-1.2", "1.-2",
		"100.0", "0.100", "1000000000.0", "0.1000000000", "99999999999999999999.0", "18446744073709551617.0", "a.b", "1.b", "a.1", "1.2/3.4",
		strings.Repeat("7.8,", 24) + "7.8", strings.Repeat("7.8,", 24), strings.Repeat("7.8,", 100) + "7.8",
	} {
		list, ok := impl.ReadPoints(s)
		same(t, fmt.Sprintf("ReadPoints %q", s), results(list, ok), results(at(), false))
	}
}

func numbersFrom(first, count int64) []int64 {
	list := []int64{}
	for i := range count {
		list = append(list, first+i)
	}
	return list
}

func TestPromise2ListText(t *testing.T) {
	sixty := strings.Trim(strings.ReplaceAll(fmt.Sprint(numbersFrom(-30, 60)), " ", ","), "[]")
	for s, list := range map[string][]int64{
		"none": nil, "0": {0}, "1,-2": {1, -2}, "5,5,5": {5, 5, 5}, "1000000000,-1000000000": {impl.MaxValue, -impl.MaxValue},
		sixty: numbersFrom(-30, 60), strings.Repeat("-1000000000,", 59) + "0": append(slicesOf(-1000000000, 59), 0),
	} {
		text, ok := impl.ListText(list)
		same(t, "ListText "+s, results(text, ok), results(s, true))
		back, ok := impl.ReadList(s)
		same(t, "ReadList "+s, results(back, ok), results(list, true))
	}
	for _, list := range [][]int64{
		numbersFrom(-30, 61), make([]int64, 1000), {impl.MaxValue + 1}, {-impl.MaxValue - 1}, {0, impl.MaxValue + 1}, {-impl.MaxValue - 1, 0},
		{1, 2, math.MaxInt64}, {math.MinInt64, 1},
	} {
		text, ok := impl.ListText(list)
		same(t, fmt.Sprint("ListText ", list), results(text, ok), results("", false))
	}
}

func slicesOf(n int64, count int) []int64 {
	list := make([]int64, count)
	for i := range list {
		list[i] = n
	}
	return list
}

func TestPromise2ReadList(t *testing.T) {
	for _, s := range []string{
		"", "None", "none,", ",none", "none,1", "1,none", " none", "1,", ",1", ",", "1,,2", "1, 2", " 1", "1 ", "1\n", "1;2", "1.2", "01", "1,02", "+1", "1,+2", "-0", "--1",
		"1000000001", "-1000000001", "1,1000000001", "9223372036854775808", "1,18446744073709551617", "a", "1,a", "1/2",
		strings.Repeat("1,", 60) + "1", strings.Repeat("1,", 60), strings.Repeat("1,", 500) + "1",
	} {
		list, ok := impl.ReadList(s)
		same(t, fmt.Sprintf("ReadList %q", s), results(list, ok), results([]int64{}, false))
	}
}

// textsOver calls visit with each text of at most so many of the letters.
func textsOver(letters string, length int, visit func(string)) {
	var extend func(s string)
	extend = func(s string) {
		visit(s)
		if len(s) < length {
			for _, letter := range letters {
				extend(s + string(letter))
			}
		}
	}
	extend("")
}

// TestPromise2Readers decides of all short texts whether they can be read;
// what is read has this text.
func TestPromise2Readers(t *testing.T) {
	number := regexp.MustCompile(`^(?:0|-?[1-9][0-9]*)$`)
	numbers := regexp.MustCompile(`^(?:0|-?[1-9][0-9]*)(?:,(?:0|-?[1-9][0-9]*))*$`)
	points := regexp.MustCompile(`^(?:0|[1-9][0-9]?)\.(?:0|[1-9][0-9]?)(?:,(?:0|[1-9][0-9]?)\.(?:0|[1-9][0-9]?))*$`)
	textsOver("019.,-+ ", 5, func(s string) {
		n, ok := impl.ReadDecimal(s)
		if ok != number.MatchString(s) || ok && fmt.Sprint(n) != s {
			t.Errorf("ReadDecimal %q: %d %t", s, n, ok)
		}
		list, ok := impl.ReadList(s)
		if ok != numbers.MatchString(s) || ok && strings.Trim(strings.ReplaceAll(fmt.Sprint(list), " ", ","), "[]") != s {
			t.Errorf("ReadList %q: %v %t", s, list, ok)
		}
		found, ok := impl.ReadPoints(s)
		if ok != points.MatchString(s) || ok && plainText(found) != s {
			t.Errorf("ReadPoints %q: %v %t", s, found, ok)
		}
	})
}

func plainText(list []impl.Point) string {
	s := ""
	for _, p := range list {
		s += fmt.Sprintf(",%d.%d", p.X, p.Y)
	}
	return strings.TrimPrefix(s, ",")
}

// bigCheck computes the check number as one great number, divided once.
func bigCheck(start int64, s string) int64 {
	sum := big.NewInt(start)
	for i := range len(s) {
		sum.Mul(sum, big.NewInt(211))
		sum.Add(sum, big.NewInt(int64(s[i])+9))
	}
	return sum.Mod(sum, big.NewInt(65521)).Int64()
}

func TestPromise2CheckOf(t *testing.T) {
	for _, c := range []struct {
		start int64
		text  string
		want  int64
	}{
		{8, "", 8}, {0, "", 0}, {65520, "", 65520}, {0, "a", 106}, {0, "\x00", 9}, {65520, "\xff", 53}, {0, "é", 43222}, {1, "\n", 230},
	} {
		n, ok := impl.CheckOf(c.start, c.text)
		same(t, fmt.Sprintf("CheckOf %d %q", c.start, c.text), results(n, ok), results(c.want, true))
	}
	for b := range 256 {
		one := string([]byte{byte(b)})
		for _, s := range []string{one, "set a 0.0" + one, strings.Repeat(one, 300), one + "\xff\xfe日本"} {
			for _, start := range []int64{0, 1, 311, 65519, 65520} {
				n, ok := impl.CheckOf(start, s)
				same(t, fmt.Sprintf("CheckOf %d %.20q", start, s), results(n, ok), results(bigCheck(start, s), true))
			}
		}
	}
	for _, start := range []int64{-1, 65521, 65522, 131042, impl.MaxValue, math.MaxInt64, math.MinInt64} {
		for _, s := range []string{"", "a", "none"} {
			n, ok := impl.CheckOf(start, s)
			same(t, fmt.Sprintf("CheckOf %d %q", start, s), results(n, ok), results(0, false))
		}
	}
}

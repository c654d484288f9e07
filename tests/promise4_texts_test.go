package tests

import (
	"fmt"
	"slices"
	"strings"
	"testing"

	"loop.example/g01149/impl"
)

// textOfChannel writes the text of a channel.
func textOfChannel(c impl.Channel) string {
	rows := []string{}
	for _, row := range [][]int64{c.Top, c.Bottom} {
		rows = append(rows, strings.ReplaceAll(strings.Trim(fmt.Sprint(row), "[]"), " ", ","))
	}
	return strings.Join(rows, "/")
}

// channelOfText reads only the nets from 0 to MaxNets.
func channelOfText(s string) (impl.Channel, bool) {
	parts := strings.Split(s, "/")
	if len(parts) != 2 {
		return impl.Channel{}, false
	}
	var rows [2][]int64
	for i, part := range parts {
		for _, word := range strings.Split(part, ",") {
			net := slices.IndexFunc(counting(0, 13), func(n int64) bool { return fmt.Sprint(n) == word })
			if net < 0 {
				return impl.Channel{}, false
			}
			rows[i] = append(rows[i], int64(net))
		}
	}
	c := impl.Channel{Top: rows[0], Bottom: rows[1]}
	if !isChannel(c) {
		return impl.Channel{}, false
	}
	return c, true
}

func checkChannelText(t *testing.T, s string) bool {
	t.Helper()
	want, found := channelOfText(s)
	got, ok := impl.ReadChannel(s)
	same(t, fmt.Sprintf("read %.200q", s), results(got, ok), results(want, found))
	return ok
}

func TestPromise4ChannelText(t *testing.T) {
	check := func(c impl.Channel) {
		text, ok := impl.ChannelText(c)
		same(t, "text of "+brief(c), results(text, ok), results(textOfChannel(c), true))
		read, ok := impl.ReadChannel(text)
		same(t, "read "+text, results(read, ok), results(c, true))
	}
	tinyChannels(check)
	wideChannels(1000, check)
	ringChannels(100, check)
}

func TestPromise4ChannelTextByHand(t *testing.T) {
	for _, row := range []struct{ text, top, bottom string }{
		{"0/0", "0", "0"},
		{"1/1", "1", "1"},
		{"12/12", "12", "12"},
		{"1,2,1/2,0,0", "1 2 1", "2 0 0"},
		{"1,2/2,1", "1 2", "2 1"},
		{"1,2,0,1/0,1,2,2", "1 2 0 1", "0 1 2 2"},
		{"0,10/10,0", "0 10", "10 0"},
	} {
		text, ok := impl.ChannelText(channel(row.top, row.bottom))
		same(t, "text", results(text, ok), results(row.text, true))
		c, ok := impl.ReadChannel(row.text)
		same(t, "read "+row.text, results(c, ok), results(channel(row.top, row.bottom), true))
	}
}

// TestPromise4ChangedTexts tries all texts that differ from some in a byte.
func TestPromise4ChangedTexts(t *testing.T) {
	read := 0
	for _, s := range []string{"0/0", "1/1", "12/12", "0,0/0,0", "1,2,1/2,0,0", "1,2/2,1", "1,12,1/11,0,12,", "11,1,11/0,1,1", "12,12/0,0", "none/none"} {
		for i := range len(s) + 1 {
			for b := range 256 {
				texts := []string{s[:i] + string([]byte{byte(b)}) + s[i:]}
				if i < len(s) {
					texts = append(texts, s[:i]+string([]byte{byte(b)})+s[i+1:], s[:i]+s[i+1:])
				}
				for _, text := range texts {
					if checkChannelText(t, text) {
						read++
					}
				}
			}
		}
	}
	if read < 20 {
		t.Errorf("only %d texts are those of channels", read)
	}
}

func TestPromise4NoChannelTexts(t *testing.T) {
	for _, s := range []string{
		"", "/", "//", "0", "0,0", "none", "none/none", "none/0", "0/none", "0/", "/0", "/0/0", "0/0/", "0//0", "0/0/0", "0 / 0", "0/0\n", " 0/0",
		"1/2", "1,2,1/2,0", "1,2/2,1,0", "1,2/2,0", "3/0", "13/13", "13,13/0,0", "-1/-1", "-1,-1/0,0", "00/0", "01/1", "+1/1", "-0/0", "1,1/0,00",
		"1,1,/0,0", ",1,1/0,0", "1,,1/0,0", "1,1/0,0,", "1.1/0.0", "1;1/0;0", "1,1|0,0", "1,1\\0,0", "1,1/0,0x", "1000000000,1000000000/0,0",
		"1000000001,1000000001/0,0", "9223372036854775808,9223372036854775808/0,0", "18446744073709551617,18446744073709551617/0,0", "256/256", "257/257",
	} {
		if channelFound := checkChannelText(t, s); channelFound {
			t.Errorf("%q is read", s)
		}
	}
	for columns := range 62 {
		row := strings.TrimSuffix(strings.Repeat("0,", columns), ",")
		c, ok := impl.ReadChannel(row + "/" + row)
		same(t, fmt.Sprint(columns, " columns"), results(len(c.Top), len(c.Bottom), ok), map[bool][]any{
			true: results(columns, columns, true), false: results(0, 0, false),
		}[columns >= 1 && columns <= impl.MaxColumns])
	}
}

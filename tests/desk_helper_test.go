package tests

import (
	"fmt"
	"math/rand"
	"regexp"
	"slices"
	"strconv"
	"strings"

	"loop.example/g01149/impl"
)

var (
	nameForm   = regexp.MustCompile(`^[a-z]{1,8}$`)
	numberForm = regexp.MustCompile(`^(0|-?[1-9][0-9]{0,8}|-?1000000000)$`)
)

// shelf has points by their names.
type shelf map[string][]impl.Point

// shelfOf has what is written as names, each with the text of its points behind
// a blank, and with bars between them.
func shelfOf(text string) shelf {
	s := shelf{}
	if text == "" {
		return s
	}
	for part := range strings.SplitSeq(text, "|") {
		name, points, _ := strings.Cut(part, " ")
		list, ok := impl.ReadPoints(points)
		if _, known := s[name]; known || !ok {
			panic(text)
		}
		s[name] = list
	}
	return s
}

// desk has the names in their order.
func (s shelf) desk() impl.Desk {
	var d impl.Desk
	for name := range s {
		d.Names = append(d.Names, name)
	}
	slices.Sort(d.Names)
	for _, name := range d.Names {
		d.Lists = append(d.Lists, slices.Clone(s[name]))
	}
	return d
}

func deskOf(text string) impl.Desk { return shelfOf(text).desk() }

func shelfWith(d impl.Desk) shelf {
	s := shelf{}
	for i, name := range d.Names {
		s[name] = slices.Clone(d.Lists[i])
	}
	return s
}

func copyOfDesk(d impl.Desk) impl.Desk {
	other := impl.Desk{Names: slices.Clone(d.Names)}
	for _, list := range d.Lists {
		other.Lists = append(other.Lists, slices.Clone(list))
	}
	return other
}

func isDesk(d impl.Desk) bool {
	for i, name := range d.Names {
		if !nameForm.MatchString(name) || slices.ContainsFunc(d.Names[:i], func(other string) bool { return other >= name }) {
			return false
		}
	}
	for _, list := range d.Lists {
		if len(list) > 24 || slices.ContainsFunc(list, func(p impl.Point) bool { return !isOnGrid(p) }) {
			return false
		}
	}
	return len(d.Names) < 7 && len(d.Names) == len(d.Lists)
}

// wordsIn has what is between the blanks.
func wordsIn(line string) []string {
	words := []string{""}
	for i := range len(line) {
		if line[i] == ' ' {
			words = append(words, "")
			continue
		}
		words[len(words)-1] += line[i : i+1]
	}
	return words
}

// put is the answer to a line that gives points to a name, if some function has
// returned them.
func (s shelf) put(name string, list []impl.Point, ok bool, output string) string {
	_, known := s[name]
	if !ok || !nameForm.MatchString(name) || len(list) > 24 || !known && len(s) > 5 {
		return "no"
	}
	s[name] = slices.Clone(list)
	return output
}

// answer is the output of a line by the document's rules, with what the functions
// of the other chapters return.
func (s shelf) answer(line string) string {
	words := wordsIn(line)
	form := fmt.Sprint(words[0], " ", len(words)-1)
	switch form {
	case "set 2":
		list, ok := impl.ReadPoints(words[2])
		return s.put(words[1], list, ok, "ok")
	case "tracks 1", "density 1", "cycle 1":
		return channelAnswer(words[0], words[1])
	case "drop 1", "show 1", "path 2", "span 1", "box 1", "steiner 1", "more 2", "bends 1", "draw 3":
	default:
		return "what"
	}
	name := words[1]
	if words[0] == "path" || words[0] == "more" {
		name = words[2]
	}
	list, known := s[name]
	if !known {
		return "no"
	}
	switch words[0] {
	case "drop":
		delete(s, name)
		return "ok"
	case "path":
		through, ok := impl.PathThrough(list)
		return s.put(words[1], through, ok, "ok")
	case "more":
		further, length, ok := impl.OneByOne(list)
		return s.put(words[1], join(list, further), ok, fmt.Sprint(length))
	case "draw":
		return drawAnswer(list, words[2], words[3])
	}
	return pointsAnswer(words[0], list)
}

func pointsAnswer(word string, list []impl.Point) string {
	var length int64
	var text string
	ok := false
	switch word {
	case "show":
		if text, ok = impl.PointsText(list); ok {
			return text
		}
	case "bends":
		if text, length, ok = impl.BendTree(list); ok && text == "" {
			text = "none"
		}
		text += " "
	case "span":
		_, length, ok = impl.SpanningTree(list)
	case "box":
		length, ok = impl.BoxBound(list)
	case "steiner":
		length, ok = impl.SteinerLength(list)
	}
	if !ok {
		return "no"
	}
	return text + fmt.Sprint(length)
}

func channelAnswer(word, text string) string {
	c, ok := impl.ReadChannel(text)
	if !ok {
		return "no"
	}
	switch word {
	case "density":
		density, _ := impl.DensityOf(c)
		return fmt.Sprint(density)
	case "cycle":
		if cycle, found := impl.CycleOf(c); found {
			return commas(cycle)
		}
		return "free"
	}
	tracks, found := impl.FewestTracks(c)
	if !found {
		return "no"
	}
	said := ""
	for i, track := range tracks {
		if i > 0 {
			said += "/"
		}
		said += commas(track)
	}
	if len(tracks) == 0 {
		return "none"
	}
	return said
}

func commas(list []int64) string {
	return strings.ReplaceAll(strings.Trim(fmt.Sprint(list), "[]"), " ", ",")
}

func drawAnswer(list []impl.Point, width, height string) string {
	if !numberForm.MatchString(width) || !numberForm.MatchString(height) {
		return "no"
	}
	w, _ := strconv.ParseInt(width, 10, 64)
	h, _ := strconv.ParseInt(height, 10, 64)
	if min(w, h) < 1 || max(w, h) > 40 {
		return "no"
	}
	return strings.Join(pictureByRule(list, w, h), "/")
}

// pictureByRule has the rows of a picture, and looks for each of its points.
func pictureByRule(list []impl.Point, width, height int64) []string {
	var rows []string
	for up := range height {
		row := ""
		for x := range width {
			if slices.Contains(list, impl.Point{X: x, Y: height - 1 - up}) {
				row += "#"
			} else {
				row += "."
			}
		}
		rows = append(rows, row)
	}
	return rows
}

// linesIn has the lines of a script, each of which ends with a newline.
func linesIn(script string) []string {
	var all []string
	line := ""
	for i := range len(script) {
		if script[i] == '\n' {
			all = append(all, line)
			line = ""
			continue
		}
		line += script[i : i+1]
	}
	return all
}

// scriptOf has a newline behind each line.
func scriptOf(all ...string) string {
	script := ""
	for _, line := range all {
		script += line + "\n"
	}
	return script
}

// textOf writes points.
func textOf(list []impl.Point) string {
	text := ""
	for i, p := range list {
		if i > 0 {
			text += ","
		}
		text += fmt.Sprint(p.X, ".", p.Y)
	}
	if text == "" {
		return "none"
	}
	return text
}

// lineDice makes lines of which many do something, and others do not.
type lineDice struct{ *rand.Rand }

func pick[T any](dice lineDice, all ...T) T { return all[dice.Intn(len(all))] }

// name is mostly one of seven.
func (dice lineDice) name() string {
	if dice.Intn(24) == 0 {
		return pick(dice, "", "A", "a1", "abcdefghi", "a.", "é", "\xff", "a\n", "ab_", "none\x00")
	}
	return pick(dice, "a", "b", "c", "d", "abcdefgh", "none", "zz")
}

func (dice lineDice) points() []impl.Point {
	switch dice.Intn(6) {
	case 0:
		return nil
	case 1: // corners, or the points of a path
		path := somePath(dice.Rand, dice.Intn(30))
		if corners, ok := impl.CornersOf(path); ok && dice.Intn(2) == 0 {
			return corners
		}
		return path
	case 2: // with equal ones
		list := dicePins(dice.Rand, 1+dice.Intn(23), 9, 9)
		return append(list, list[dice.Intn(len(list))])
	case 3:
		return dicePins(dice.Rand, 1+dice.Intn(26), 100, 100)
	}
	return dicePins(dice.Rand, 1+dice.Intn(7), 1+dice.Intn(50), 1+dice.Intn(50))
}

// somePath has a point more than steps, but ends where it would meet itself.
func somePath(dice *rand.Rand, steps int) []impl.Point {
	at := impl.Point{X: dice.Int63n(100), Y: dice.Int63n(100)}
	path := []impl.Point{at}
	for range steps {
		switch dice.Intn(4) {
		case 0:
			at.X++
		case 1:
			at.X--
		case 2:
			at.Y++
		default:
			at.Y--
		}
		if !isOnGrid(at) || slices.Contains(path, at) {
			break
		}
		path = append(path, at)
	}
	return path
}

func (dice lineDice) channel() string {
	switch dice.Intn(8) {
	case 0:
		return pick(dice, "", "none", "/", "0", "1/0", "1,2/2", "13,13/0,0", "01,1/0,0", "0.0", "1,1/0,0,")
	case 1:
		return pick(dice, "0/0", "7/7", "0,1,2/0,1,2", "1,2/2,1")
	}
	return textOfChannel(diceChannel(dice.Rand, 1+dice.Intn(8), 1+dice.Intn(5)))
}

func (dice lineDice) side() string {
	if dice.Intn(4) == 0 {
		return pick(dice, "0", "41", "40", "1", "-1", "-5", "", "x", "01", "+1", "-0", "1000000000", "1000000001", "9223372036854775807")
	}
	return fmt.Sprint(1 + dice.Intn(40))
}

// plainLine is a line with one of the forms.
func (dice lineDice) plainLine() string {
	word := pick(dice, "set", "set", "set", "set", "drop", "show", "path", "span", "box", "steiner", "more", "bends", "draw", "tracks", "density", "cycle")
	switch word {
	case "set":
		text := textOf(dice.points())
		if dice.Intn(10) == 0 {
			text = pick(dice, "", "x", "0.0,", "100.0", "-1.0", "1", "01.1", "1.1,1", "none,none")
		}
		return "set " + dice.name() + " " + text
	case "path", "more":
		return word + " " + dice.name() + " " + dice.name()
	case "draw":
		return "draw " + dice.name() + " " + dice.side() + " " + dice.side()
	case "tracks", "density", "cycle":
		return word + " " + dice.channel()
	}
	return word + " " + dice.name()
}

// line is a plain one, or one with a change that mostly takes its form away.
func (dice lineDice) line() string {
	line := dice.plainLine()
	switch dice.Intn(20) {
	case 0:
		return " " + line
	case 1:
		return line + " "
	case 2:
		return strings.Replace(line, " ", "  ", 1)
	case 3:
		return line + " " + pick(dice, "a", "0", "none")
	case 4:
		return line[:strings.LastIndex(line, " ")]
	case 5:
		return strings.ToUpper(line[:1]) + line[1:]
	case 6:
		return pick(dice, "", " ", "  ", "set", "what", "no", "ok", "free", "fly a", "\xff\xfe", "größe a", "106 a", "show\ta", "set a\t0.0")
	}
	return line
}

// script has lines of at most so many bytes in all.
func (dice lineDice) script(count, most int) string {
	script := ""
	for range count {
		line := strings.ReplaceAll(dice.line(), "\n", "") + "\n"
		if len(script)+len(line) > most {
			break
		}
		script += line
	}
	return script
}

// shelf has up to so many names.
func (dice lineDice) shelf(most int) shelf {
	s := shelf{}
	for range dice.Intn(most + 1) {
		s.put(dice.name(), dice.points(), true, "")
	}
	return s
}

// checkNumber is that of a line behind another number.
func checkNumber(before int64, line string) int64 {
	for i := range len(line) {
		before = (before*211 + int64(line[i]) + 9) % 65521
	}
	return before
}

func journalByRule(all []string) string {
	journal := ""
	check := int64(0)
	for _, line := range all {
		check = checkNumber(check, line)
		journal += fmt.Sprintf("%d %s\n", check, line)
	}
	return journal
}

// recoveredByRule tries all lines that can stand in a text between a blank and a
// newline, behind a check number of at most five digits. It goes on with each one
// that fits.
func recoveredByRule(text string, before int64) []string {
	var best []string
	for first := 2; first <= 6; first++ {
		for end := first; end < len(text); end++ {
			if text[first-1] != ' ' || text[end] != '\n' {
				continue
			}
			line := text[first:end]
			check := checkNumber(before, line)
			entry := fmt.Sprintf("%d %s\n", check, line)
			if strings.Contains(line, "\n") || !strings.HasPrefix(text, entry) {
				continue
			}
			if all := append([]string{line}, recoveredByRule(text[len(entry):], check)...); len(all) > len(best) {
				best = all
			}
		}
	}
	return best
}

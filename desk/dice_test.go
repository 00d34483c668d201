package desk_test

import (
	"fmt"
	"slices"
	"strings"

	"palantype/api"
	"palantype/desk"
)

// This file throws sessions.

// dice is a row of numbers that look thrown, and are the same in each run.
type dice uint64

// roll returns a number from lo to hi.
func (d *dice) roll(lo, hi int) int {
	*d = *d*6364136223846793005 + 1442695040888963407
	return lo + int(uint64(*d)>>33)%(hi-lo+1)
}

// one reports whether it is one time in so many.
func (d *dice) one(many int) bool { return d.roll(1, many) == 1 }

// oneOf returns one of the elements.
func oneOf[T any](d *dice, l ...T) T { return l[d.roll(0, len(l)-1)] }

// mix deals out the elements of the list.
func mix[T any](d *dice, l []T) {
	for i := range l {
		k := d.roll(0, i)
		l[i], l[k] = l[k], l[i]
	}
}

// words throws so many words.
func (d *dice) words(lo, hi int) string {
	var l []string
	for range d.roll(lo, hi) {
		l = append(l, oneOf(d, "this", "House", "notes", "a", "the", "report", "not", "Mr", "9", "~", "-1"))
	}
	return strings.Join(l, " ")
}

// text throws a text, seldom one that no paragraph has.
func (d *dice) text() string {
	if d.one(25) {
		return oneOf(d, "", " ", "\x1f", "\x7f", "\x00", "é", "\xff", "a\nb", strings.Repeat("x", 200), strings.Repeat("x", 201))
	}
	return d.words(1, 7)
}

// anchor throws an anchor, mostly one that there is.
func (d *dice) anchor(s desk.State) int {
	if l := anchorsOf(s); len(l) > 0 && !d.one(5) {
		return oneOf(d, l...)
	}
	return d.roll(1, 30)
}

// number throws the number of a paper, mostly one that there is.
func (d *dice) number(s desk.State) int {
	if l := s.Motion.Papers; len(l) > 0 && !d.one(5) {
		return oneOf(d, l...).Number
	}
	return d.roll(0, 7)
}

// words of lines, by what they are about.
var (
	ofVolumes   = []string{"say", "say", "say", "say", "bind", "change", "remove", "add", "cite", "cite", "hide", "hide", "day"}
	ofDivisions = []string{"house", "divide", "divide", "both", "both", "tell", "tell", "pair", "pair", "result", "result"}
	ofMotions   = []string{"move", "move", "paper", "paper", "paper", "adopt", "adopt", "order"}
)

// entries throws a line that may follow in the state, or two that belong together; mostly
// such as are accepted.
func (d *dice) entries(s desk.State, words []string) []string {
	l := d.any(s, words)
	for range d.roll(0, 3) {
		if _, e := did(s, l[0]); e == api.OK {
			break
		}
		l = d.any(s, words)
	}
	return l
}

// any throws a line that may follow in the state, or two that belong together.
func (d *dice) any(s desk.State, words []string) []string {
	word := oneOf(d, words...)
	if word == "both" {
		lobby, member := d.roll(1, 2), d.roll(0, max(0, s.House-1))
		return []string{fmt.Sprint("tell ", lobby, " 0 ", member), fmt.Sprint("tell ", lobby, " 1 ", member)}
	}
	line := word + " " + d.behind(s, word)
	if word == "result" {
		line = word
	}
	return []string{line}
}

// behind throws what stands behind a word.
func (d *dice) behind(s desk.State, word string) string {
	fresh := d.roll(1, 40)
	switch word {
	case "day":
		return fmt.Sprint(s.Day + d.roll(0, 2) - d.roll(0, 1)*d.roll(0, 1))
	case "say":
		return fmt.Sprintf("%d %s", fresh, d.text())
	case "bind":
		return fmt.Sprintf("%d %d %d", d.roll(0, 9), d.roll(0, 5), d.roll(9, 20))
	case "change":
		return fmt.Sprintf("%d %d %s", d.roll(0, 15), d.anchor(s), d.text())
	case "remove":
		return fmt.Sprintf("%d %d", d.roll(0, 15), d.anchor(s))
	case "add":
		return fmt.Sprintf("%d %d %d %s", d.roll(0, 15), d.anchor(s), fresh, d.text())
	case "cite":
		return fmt.Sprintf("%d %d", d.anchor(s), d.roll(0, 3))
	case "hide":
		return fmt.Sprintf("%d %d %d", d.anchor(s), oneOf(d, 0, 1, 2, 7, 8), d.roll(0, 8))
	case "house":
		return fmt.Sprint(d.roll(0, 5))
	case "divide":
		return fmt.Sprintf("%d %d %d %d", d.roll(0, 3), d.roll(0, 3), d.roll(0, 3), oneOf(d, 0, 1, 1, 2, 2, 3))
	case "tell":
		return fmt.Sprintf("%d %d %d", oneOf(d, 0, 1, 1, 1, 2, 2, 2, 3), oneOf(d, 0, 0, 0, 1, 1, 1, 2), d.roll(0, s.House))
	case "pair":
		return fmt.Sprintf("%d %d", d.roll(0, s.House), d.roll(0, s.House))
	case "move":
		return d.words(0, 6)
	case "paper":
		from := d.roll(0, 3)
		return fmt.Sprintf("%d %d %d %d %s", d.roll(0, 9), oneOf(d, 0, 0, d.number(s)), from, from+d.roll(-1, 2), d.words(0, 3))
	case "adopt":
		return fmt.Sprint(d.number(s))
	}
	return fmt.Sprint(fresh)
}

// strangeLine throws a line that mostly has not the form.
func (d *dice) strangeLine(line string) string {
	at := d.roll(0, len(line))
	part := oneOf(d, "", " ", "0", "-", "+", "x", "\n", "\x00", "\xff", " 1", "é", "999999999", "9999999999", strings.Repeat(" ", 5))
	if d.one(2) && at < len(line) {
		return line[:at] + part + line[at+1:]
	}
	return line[:at] + part + line[at:]
}

// session throws so many lines, or one more.
func (d *dice) session(count int) []string {
	words := slices.Concat(ofVolumes, ofDivisions, ofMotions)
	switch d.roll(0, 5) {
	case 0:
		words = ofVolumes
	case 1:
		words = ofDivisions
	case 2:
		words = slices.Concat(ofMotions, []string{"say", "day"})
	}
	return d.about(count, words)
}

// about throws so many lines with these words, or one more, behind those of the start.
func (d *dice) about(count int, words []string, start ...string) []string {
	s, _ := ran(start)
	lines := slices.Clone(start)
	for len(lines) < count {
		for _, line := range d.entries(s, words) {
			if d.one(30) {
				line = d.strangeLine(line)
			}
			s, _ = did(s, line)
			lines = append(lines, line)
		}
	}
	return lines
}

// bound throws a session with a volume that is bound, and so many lines behind it.
func (d *dice) bound(count int) []string {
	lines := acceptedOf(d.about(d.roll(5, 25), []string{"say", "say", "say", "say", "day", "hide"}))
	lines = append(lines, fmt.Sprintf("bind %d %d %d", d.roll(1, 9), d.roll(1, 5), d.roll(10, 20)))
	s, _ := ran(lines)
	words := []string{"cite", "hide"}
	for len(lines) < count {
		for _, line := range d.entries(s, words) {
			s, _ = did(s, line)
			lines = append(lines, line)
		}
		words = []string{"change", "remove", "add", "cite", "hide", "day", "say", "bind", "order"}
	}
	return lines
}

// repeated puts some of the lines once more behind themselves.
func (d *dice) repeated(lines []string) []string {
	lines = slices.Clone(lines)
	for range 1 + len(lines)/4 {
		from := d.roll(0, len(lines)-1)
		lines = slices.Insert(lines, d.roll(from+1, len(lines)), lines[from])
	}
	return lines
}

// may throws kinds that a reader may read.
func (d *dice) may() []int {
	var l []int
	for kind := range 8 {
		if d.one(4) {
			l = append(l, kind)
		}
	}
	return l
}

// counted counts the lines that were accepted, by their words, and errors.
func counted(accepted map[string]int, seen map[api.Errno]int, lines []string, errors []api.Errno) {
	for i, line := range lines {
		word, _, _ := strings.Cut(line, " ")
		if errors[i] == api.OK {
			accepted[word]++
		}
		seen[errors[i]]++
	}
}

package desk_test

import (
	"fmt"
	"regexp"
	"slices"
	"strconv"
	"strings"
	"sync"

	"palantype/api"
	"palantype/desk"
	"palantype/paper"
	"palantype/tally"
	"palantype/volume"
)

// This file says again what the chapter defines, as literally and slowly as can be; the
// tests hold the package against it.

// blanked turns a word, and what stands behind it, into the pattern of its lines: N is a
// number, T a text.
func blanked(form string) *regexp.Regexp {
	form = strings.ReplaceAll(form, " N", ` (0|-?[1-9][0-9]{0,8})`)
	form = strings.ReplaceAll(form, " T", ` ((?s:.*))`)
	return regexp.MustCompile(`\A` + form + `\z`)
}

// forms has the pattern of the lines of each word.
var forms = sync.OnceValue(func() map[string]*regexp.Regexp {
	l := map[string]*regexp.Regexp{}
	for _, form := range []string{"day N", "say N T", "bind N N N", "change N N T", "remove N N", "add N N N T", "cite N N", "hide N N N", "house N", "divide N N N N", "tell N N N", "pair N N", "result", "move T", "paper N N N N T", "adopt N", "order N"} {
		word, _, _ := strings.Cut(form, " ")
		l[word] = blanked(form)
	}
	return l
})

// readOf reads a line: its word, its numbers and its text.
func readOf(line string) (word string, n []int, text string, is bool) {
	word, _, _ = strings.Cut(line, " ")
	form := forms()[word]
	if form == nil {
		return "", nil, "", false
	}
	parts := form.FindStringSubmatch(line)
	if parts == nil {
		return "", nil, "", false
	}
	parts = parts[1:]
	if last := len(parts) - 1; strings.Contains(form.String(), ".*") {
		parts, text = parts[:last], parts[last]
	}
	for _, digits := range parts {
		x, e := strconv.Atoi(digits)
		if e != nil {
			panic(line)
		}
		n = append(n, x)
	}
	return word, n, text, true
}

// list returns a copy with memory of its own; without elements it is nil, or as empty
// says.
func list[T any](l []T, empty bool) []T {
	if empty {
		return append([]T{}, l...)
	}
	return append([]T(nil), l...)
}

// cloned returns a copy of a state that shares no memory; lists of no elements are nil.
func cloned(s desk.State) desk.State {
	s.Volume.Parts = list(s.Volume.Parts, false)
	for i, p := range s.Volume.Parts {
		s.Volume.Parts[i].Paragraphs = list(p.Paragraphs, false)
	}
	s.Errata, s.Hides, s.Cites = list(s.Errata, false), list(s.Hides, false), list(s.Cites, false)
	s.Motion.Words, s.Motion.Papers = list(s.Motion.Words, false), list(s.Motion.Papers, false)
	for i, p := range s.Motion.Papers {
		s.Motion.Papers[i].Words = list(p.Words, false)
	}
	s.Choice, s.Results = list(s.Choice, false), list(s.Results, false)
	d := &s.Division
	for i := range 2 {
		d.Ayes[i], d.Noes[i] = list(d.Ayes[i], false), list(d.Noes[i], false)
	}
	d.Pairs, d.Proxies = list(d.Pairs, false), list(d.Proxies, false)
	return s
}

// did does a line: it returns the state behind it, and its error.
func did(s desk.State, line string) (desk.State, api.Errno) {
	word, n, text, is := readOf(line)
	if !is {
		return s, api.ErrForm
	}
	next, e := doing(cloned(s), word, n, text)
	if e != api.OK {
		return s, e
	}
	return next, api.OK
}

// doing does what the table says of a word.
func doing(s desk.State, word string, n []int, text string) (desk.State, api.Errno) {
	switch word {
	case "day":
		if n[0] < s.Day || n[0] > 99999 {
			return s, api.ErrRange
		}
		s.Day = n[0]
		return s, api.OK
	case "say", "bind", "change", "remove", "add", "cite", "hide":
		return binding(s, word, n, text)
	case "house", "divide", "tell", "pair", "result":
		return dividing(s, word, n)
	}
	return moving(s, word, n, text)
}

// asDraft returns the volume as a draft.
func asDraft(s desk.State) volume.Volume {
	return volume.Volume{Number: 1, Bound: s.Day, Height: 1, Width: 10, Parts: s.Volume.Parts}
}

// saying does what say does.
func saying(s desk.State, anchor int, text string) (desk.State, api.Errno) {
	if s.Bound {
		return s, api.ErrState
	}
	at := slices.IndexFunc(s.Volume.Parts, func(p volume.Part) bool { return p.Day == s.Day })
	if at < 0 {
		at = len(s.Volume.Parts)
		s.Volume.Parts = append(s.Volume.Parts, volume.Part{Day: s.Day})
	}
	p := &s.Volume.Parts[at]
	p.Paragraphs = append(p.Paragraphs, volume.Paragraph{Anchor: anchor, Text: text})
	return s, volume.CheckVolume(asDraft(s))
}

// amending does what all errata do.
func amending(s desk.State, x volume.Erratum) (desk.State, api.Errno) {
	if !s.Bound || s.Day == s.Volume.Bound {
		return s, api.ErrState
	}
	s.Errata = append(s.Errata, x)
	_, e := volume.Read(s.Volume, s.Errata, s.Day)
	return s, e
}

// binding does what the words of volumes say.
func binding(s desk.State, word string, n []int, text string) (desk.State, api.Errno) {
	switch word {
	case "say":
		return saying(s, n[0], text)
	case "bind":
		if s.Bound {
			return s, api.ErrState
		}
		s.Volume = volume.Volume{Number: n[0], Bound: s.Day, Height: n[1], Width: n[2], Parts: s.Volume.Parts}
		s.Bound = true
		return s, volume.CheckVolume(s.Volume)
	case "change":
		return amending(s, volume.Erratum{Number: n[0], Day: s.Day, Kind: volume.Change, Anchor: n[1], Text: text})
	case "remove":
		return amending(s, volume.Erratum{Number: n[0], Day: s.Day, Kind: volume.Remove, Anchor: n[1]})
	case "add":
		return amending(s, volume.Erratum{Number: n[0], Day: s.Day, Kind: volume.Add, Anchor: n[1], New: n[2], Text: text})
	case "cite":
		if !s.Bound {
			return s, api.ErrState
		}
		if n[1] < 0 || n[1] > 255 {
			return s, api.ErrRange
		}
		cite, e := volume.Cite(s.Volume, s.Errata, n[0], uint8(n[1]), s.Day)
		s.Cites = append(s.Cites, cite)
		return s, e
	}
	return hiding(s, n)
}

// hiding does what hide does. Whoever looks for an anchor among all that there ever were,
// finds also what is removed.
func hiding(s desk.State, n []int) (desk.State, api.Errno) {
	if n[1] < 0 || n[1] > 7 || n[2] < 0 || n[2] > 9999 {
		return s, api.ErrArg
	}
	if len(s.Hides) >= 12 {
		return s, api.ErrLimit
	}
	if !slices.Contains(anchorsOf(s), n[0]) {
		return s, api.ErrNone
	}
	s.Hides = append(s.Hides, desk.Hide{Anchor: n[0], Kind: n[1], Until: n[2]})
	return s, api.OK
}

// anchorsOf returns the anchors of all paragraphs, removed or not.
func anchorsOf(s desk.State) []int {
	var l []int
	for _, part := range s.Volume.Parts {
		for _, p := range part.Paragraphs {
			l = append(l, p.Anchor)
		}
	}
	for _, x := range s.Errata {
		if x.Kind == volume.Add {
			l = append(l, x.New)
		}
	}
	return l
}

// dividing does what the words of divisions say.
func dividing(s desk.State, word string, n []int) (desk.State, api.Errno) {
	if opens := word == "house" || word == "divide"; opens == s.Open {
		return s, api.ErrState
	}
	switch word {
	case "house":
		if n[0] < 1 || n[0] > 40 {
			return s, api.ErrRange
		}
		s.House = n[0]
	case "divide":
		if n[0] < 0 || n[0] > 255 || n[3] < 0 || n[3] > 255 {
			return s, api.ErrRange
		}
		s.Division = tally.Division{Members: s.House, Rule: uint8(n[0]), Need: n[1], Quorum: n[2], Tie: uint8(n[3])}
		s.Open = true
		return s, tally.CheckDivision(s.Division)
	case "tell":
		return telling(s, n[0], n[1], n[2])
	case "pair":
		s.Division.Pairs = append(s.Division.Pairs, tally.Pair{A: n[0], B: n[1]})
		return s, tally.CheckDivision(s.Division)
	case "result":
		outcomes, e := tally.Allowed(s.Division)
		if e != api.OK {
			return s, e
		}
		if len(outcomes) > 1 {
			return s, api.ErrGap
		}
		s.Results = append(s.Results, outcomes[0])
		s.Division, s.Open = tally.Division{}, false
	}
	return s, api.OK
}

// telling does what tell does.
func telling(s desk.State, lobby, teller, member int) (desk.State, api.Errno) {
	if lobby != 1 && lobby != 2 || teller != 0 && teller != 1 || member < 0 || member >= s.House {
		return s, api.ErrRange
	}
	l := &s.Division.Ayes[teller]
	if lobby == 2 {
		l = &s.Division.Noes[teller]
	}
	if slices.Contains(*l, member) {
		return s, api.ErrTwice
	}
	*l = append(*l, member)
	slices.Sort(*l)
	return s, api.OK
}

// wordsIn returns the words of a text.
func wordsIn(text string) []string {
	var l []string
	for _, word := range strings.Split(text, " ") {
		if word != "" {
			l = append(l, word)
		}
	}
	return l
}

// moving does what the words of motions say.
func moving(s desk.State, word string, n []int, text string) (desk.State, api.Errno) {
	if (word == "move") == s.Moved || word == "order" && s.Bound {
		return s, api.ErrState
	}
	switch word {
	case "move":
		s.Motion, s.Moved = paper.Motion{Words: wordsIn(text)}, true
		return s, paper.CheckMotion(s.Motion)
	case "paper":
		s.Motion.Papers = append(s.Motion.Papers, paper.Paper{Number: n[0], Of: n[1], From: n[2], To: n[3], Words: wordsIn(text)})
		return s, paper.CheckMotion(s.Motion)
	case "adopt":
		if slices.Contains(s.Choice, n[0]) {
			return s, api.ErrTwice
		}
		s.Choice = append(s.Choice, n[0])
		slices.Sort(s.Choice)
		_, _, e := paper.Text(s.Motion, s.Choice)
		return s, e
	}
	words, _, e := paper.Text(s.Motion, s.Choice)
	if e != api.OK {
		panic(e)
	}
	s.Motion, s.Moved, s.Choice = paper.Motion{}, false, nil
	return saying(s, n[0], strings.Join(words, " "))
}

// ran returns the state after the lines, and the error of each.
func ran(lines []string) (s desk.State, errors []api.Errno) {
	for _, line := range lines {
		var e api.Errno
		s, e = did(s, line)
		errors = append(errors, e)
	}
	return s, errors
}

// without returns the lines but one.
func without(lines []string, i int) []string {
	return append(list(lines[:i], false), lines[i+1:]...)
}

// barsOf returns the numbers of the lines that bar a line.
func barsOf(lines []string, line int) []int {
	_, errors := ran(lines)
	var l []int
	for i := range line {
		_, others := ran(without(lines, i))
		if errors[i] == api.OK && errors[line] != api.OK && others[line-1] == api.OK {
			l = append(l, i)
		}
	}
	return l
}

// saidIn returns the anchors of the paragraphs that are read in a state.
func saidIn(s desk.State) []int {
	v, l := asDraft(s), []volume.Erratum(nil)
	if s.Bound {
		v, l = s.Volume, s.Errata
	}
	paragraphs, e := volume.Read(v, l, s.Day)
	if e != api.OK {
		panic(e)
	}
	var anchors []int
	for _, p := range paragraphs {
		anchors = append(anchors, p.Anchor)
	}
	return anchors
}

// badReader says whether there is no such reader.
func badReader(year int, may []int) bool {
	bad := year < 0 || year > 9999
	for i, kind := range may {
		bad = bad || kind < 0 || kind > 7 || i > 0 && may[i-1] >= kind
	}
	return bad
}

// shownIn returns what a reader is shown in a state.
func shownIn(s desk.State, year int, may []int) []string {
	var l []string
	for _, anchor := range saidIn(s) {
		hidden := slices.ContainsFunc(s.Hides, func(h desk.Hide) bool {
			return h.Anchor == anchor && year < h.Until && !slices.Contains(may, h.Kind)
		})
		switch {
		case !hidden:
			l = append(l, fmt.Sprint(anchor))
		case len(l) == 0 || l[len(l)-1] != "*":
			l = append(l, "*")
		}
	}
	return l
}

// reportOf returns the report of a state.
func reportOf(s desk.State) string {
	text := fmt.Sprintf("day %d house %d\n", s.Day, s.House)
	if !s.Bound {
		text += fmt.Sprintf("draft %d\n", len(anchorsOf(s)))
	} else {
		text += fmt.Sprintf("volume %d errata %d\n", s.Volume.Number, len(s.Errata))
		places, e := volume.Print(s.Volume, s.Errata)
		if e != api.OK {
			panic(e)
		}
		for _, p := range places {
			text += fmt.Sprintf("%d %d.%d %d\n", p.Anchor, p.Column, p.Line, p.Lines)
		}
	}
	if s.Moved {
		text += fmt.Sprintf("motion %d papers %d adopted %d\n", len(s.Motion.Words), len(s.Motion.Papers), len(s.Choice))
	}
	if s.Open {
		text += "open\n"
	}
	for _, outcome := range s.Results {
		text += []string{"lost", "carried", "void"}[outcome] + "\n"
	}
	for _, cite := range s.Cites {
		text += cite + "\n"
	}
	return text
}

// recordOf returns the record of a line.
func recordOf(line string) string {
	check := 11
	for i := range len(line) {
		check = (check*29 + int(line[i]) + 3) % 262139
	}
	length := fmt.Sprintf("%04o", len(line))
	rest := ""
	for i := range length {
		rest += string(rune('7' - (length[i] - '0')))
	}
	return fmt.Sprintf("[%s%s%06o]%s\n", length, rest, check, line)
}

// sheetsOf returns the sheets of the lines.
func sheetsOf(lines ...string) string {
	text := ""
	for _, line := range lines {
		text += recordOf(line)
	}
	return text
}

// recoveredOf returns the lines that can be read of a text, and how many bytes their
// records have: all lengths that a line may have are tried.
func recoveredOf(text string) (lines []string, read int) {
	for len(lines) < 60 {
		found := false
		for length := 0; length <= 400 && 16+length < len(text[read:]); length++ {
			line := text[read+16 : read+16+length]
			if text[read] == '[' && strings.HasPrefix(text[read:], recordOf(line)) {
				lines, read, found = append(lines, line), read+17+length, true
				break
			}
		}
		if !found {
			break
		}
	}
	return lines, read
}

// resumedOf returns what Resume has to.
func resumedOf(text string, more []string) (string, api.Errno) {
	if badLines(more) {
		return "", api.ErrLimit
	}
	lines, _ := recoveredOf(text)
	s, _ := ran(lines)
	for _, line := range more {
		var e api.Errno
		if s, e = did(s, line); e == api.OK {
			lines = append(lines, line)
		}
	}
	if len(lines) > 60 {
		return "", api.ErrLimit
	}
	return sheetsOf(lines...), api.OK
}

// badLines says whether there are too many lines, or one is too long.
func badLines(lines []string) bool {
	return len(lines) > 60 || slices.ContainsFunc(lines, func(line string) bool { return len(line) > 400 })
}

// acceptedOf returns the lines of a session that are accepted.
func acceptedOf(lines []string) []string {
	_, errors := ran(lines)
	var l []string
	for i, line := range lines {
		if errors[i] == api.OK {
			l = append(l, line)
		}
	}
	return l
}

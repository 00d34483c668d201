package volume_test

import (
	"fmt"
	"regexp"
	"slices"
	"strconv"
	"strings"

	"palantype/api"
	"palantype/volume"
)

// This file says again what the chapter defines, as literally and slowly as
// can be; the tests hold the package against it.

// dice is a row of numbers that look thrown, and are the same in each run.
type dice uint64

// roll returns a number from lo to hi.
func (d *dice) roll(lo, hi int) int {
	*d = *d*6364136223846793005 + 1442695040888963407
	return lo + int(uint64(*d)>>33)%(hi-lo+1)
}

// one reports whether it is one time in so many.
func (d *dice) one(many int) bool { return d.roll(1, many) == 1 }

// mix deals out the elements of the list.
func mix[T any](d *dice, l []T) {
	for i := range l {
		k := d.roll(0, i)
		l[i], l[k] = l[k], l[i]
	}
}

func says(anchor int, text string) volume.Paragraph {
	return volume.Paragraph{Anchor: anchor, Text: text}
}

func part(day int, paragraphs ...volume.Paragraph) volume.Part {
	return volume.Part{Day: day, Paragraphs: paragraphs}
}

func bound(number, day, height, width int, parts ...volume.Part) volume.Volume {
	return volume.Volume{Number: number, Bound: day, Height: height, Width: width, Parts: parts}
}

func change(number, day, anchor int, text string) volume.Erratum {
	return volume.Erratum{Number: number, Day: day, Kind: volume.Change, Anchor: anchor, Text: text}
}

func remove(number, day, anchor int) volume.Erratum {
	return volume.Erratum{Number: number, Day: day, Kind: volume.Remove, Anchor: anchor}
}

func add(number, day, anchor, fresh int, text string) volume.Erratum {
	return volume.Erratum{Number: number, Day: day, Kind: volume.Add, Anchor: anchor, New: fresh, Text: text}
}

func place(anchor, column, line, lines int) volume.Place {
	return volume.Place{Anchor: anchor, Column: column, Line: line, Lines: lines}
}

// third is the volume of the chapter's examples.
func third() volume.Volume {
	return bound(3, 50, 3, 10, part(40, says(11, "The House met at two."), says(12, "Prayers.")), part(44, says(15, "A bill was read.")))
}

// amends are the errata of the chapter's examples.
func amends() []volume.Erratum {
	return []volume.Erratum{change(1, 45, 12, "Prayers were said."), remove(2, 60, 11), add(3, 60, 11, 20, "The Speaker took the chair.")}
}

// cloned returns a copy that shares no memory.
func cloned(v volume.Volume) volume.Volume {
	v.Parts = slices.Clone(v.Parts)
	for i := range v.Parts {
		v.Parts[i].Paragraphs = slices.Clone(v.Parts[i].Paragraphs)
	}
	return v
}

// badText says whether no paragraph may have the text.
func badText(text string) bool {
	bad := text == "" || len(text) > 200
	for i := range len(text) {
		bad = bad || text[i] < ' ' || text[i] > '~'
	}
	return bad
}

// badDay says whether there is no such day.
func badDay(day int) bool { return day < 0 || day > 99999 }

// ownAnchors returns the anchors of the volume's own paragraphs.
func ownAnchors(v volume.Volume) []int {
	var l []int
	for _, p := range v.Parts {
		for _, x := range p.Paragraphs {
			l = append(l, x.Anchor)
		}
	}
	return l
}

// again says whether something is in the list twice.
func again(l []int) bool {
	for i := range l {
		if slices.Contains(l[:i], l[i]) {
			return true
		}
	}
	return false
}

// faultOf says whether a volume is valid.
func faultOf(v volume.Volume) api.Errno {
	if len(v.Parts) > 6 || len(ownAnchors(v)) > 30 {
		return api.ErrLimit
	}
	bad := v.Number < 1 || v.Number > 99 || badDay(v.Bound) || v.Height < 1 || v.Height > 60 || v.Width < 10 || v.Width > 80
	for i, p := range v.Parts {
		bad = bad || badDay(p.Day) || p.Day > v.Bound || i > 0 && p.Day <= v.Parts[i-1].Day
		for _, x := range p.Paragraphs {
			bad = bad || x.Anchor < 1 || x.Anchor > 999 || badText(x.Text)
		}
	}
	if bad {
		return api.ErrArg
	}
	if again(ownAnchors(v)) {
		return api.ErrTwice
	}
	return api.OK
}

// badErratum says whether a number, the Kind, the Text or New is not as described.
func badErratum(x volume.Erratum) bool {
	if x.Number < 1 || x.Number > 999 || badDay(x.Day) {
		return true
	}
	switch x.Kind {
	case 0:
		return badText(x.Text) || x.New != 0
	case 1:
		return x.Text != "" || x.New != 0
	case 2:
		return badText(x.Text) || x.New < 1 || x.New > 999
	}
	return true
}

// ahead says whether an erratum is done ahead of another one.
func ahead(x, y volume.Erratum) bool { return x.Day < y.Day || x.Day == y.Day && x.Number < y.Number }

// adds says whether the erratum adds the paragraph with the anchor.
func adds(x volume.Erratum, anchor int) bool { return x.Kind == volume.Add && x.New == anchor }

// faultOfErrata says whether errata are those of the volume, which is valid.
func faultOfErrata(v volume.Volume, l []volume.Erratum) api.Errno {
	if len(l) > 20 {
		return api.ErrLimit
	}
	if slices.ContainsFunc(l, badErratum) {
		return api.ErrArg
	}
	var numbers []int
	anchors := ownAnchors(v)
	for _, x := range l {
		numbers = append(numbers, x.Number)
		if x.Kind == volume.Add {
			anchors = append(anchors, x.New)
		}
	}
	if again(numbers) || again(anchors) {
		return api.ErrTwice
	}
	for _, x := range l {
		added := slices.ContainsFunc(l, func(y volume.Erratum) bool { return adds(y, x.Anchor) && ahead(y, x) })
		if !added && !slices.Contains(ownAnchors(v), x.Anchor) {
			return api.ErrNone
		}
	}
	return api.OK
}

// firstOf returns the first error of them, or OK.
func firstOf(codes ...api.Errno) api.Errno {
	for _, e := range codes {
		if e != api.OK {
			return e
		}
	}
	return api.OK
}

// faultOfBoth says whether the volume is valid, and the errata are its own.
func faultOfBoth(v volume.Volume, l []volume.Erratum) api.Errno {
	if e := faultOf(v); e != api.OK {
		return e
	}
	return faultOfErrata(v, l)
}

// mergedOf merges two lists: again and again the least one that is not there yet is
// put behind the others.
func mergedOf(a, b []volume.Erratum) ([]volume.Erratum, api.Errno) {
	both := slices.Concat(a, b)
	for _, x := range both {
		for _, y := range both {
			if x != y && x.Number == y.Number {
				return nil, api.ErrTwice
			}
		}
	}
	var l []volume.Erratum
	for {
		var next *volume.Erratum
		for i, x := range both {
			if !slices.Contains(l, x) && (next == nil || ahead(x, *next)) {
				next = &both[i]
			}
		}
		if next == nil {
			return l, api.OK
		}
		l = append(l, *next)
	}
}

// upTo returns the errata that are issued up to the day, as they are done: each is
// put ahead of the first one that it has to be ahead of.
func upTo(l []volume.Erratum, day int) []volume.Erratum {
	var done []volume.Erratum
	for _, x := range l {
		if x.Day > day {
			continue
		}
		at := 0
		for at < len(done) && ahead(done[at], x) {
			at++
		}
		done = slices.Insert(done, at, x)
	}
	return done
}

// said is what a paragraph says after a day.
type said struct {
	volume.Paragraph
	removed bool
}

// saidAfter returns what the paragraph with the anchor says after the day: its own
// text, or that of the last Change ahead of what removes it; and false if there is
// no such paragraph.
func saidAfter(v volume.Volume, l []volume.Erratum, anchor, day int) (said, bool) {
	s, found := said{}, false
	for _, p := range v.Parts {
		for _, x := range p.Paragraphs {
			if x.Anchor == anchor {
				s.Paragraph, found = x, true
			}
		}
	}
	for _, x := range upTo(l, day) {
		switch {
		case adds(x, anchor):
			s.Paragraph, found = says(anchor, x.Text), true
		case x.Anchor == anchor && x.Kind == volume.Remove:
			s.removed = true
		case x.Anchor == anchor && x.Kind == volume.Change && !s.removed:
			s.Text = x.Text
		}
	}
	return s, found
}

// behind returns the anchor, and behind it those of all that was added behind it up
// to the day, and behind these: the later something was added, the nearer it is.
func behind(l []volume.Erratum, anchor, day int) []int {
	anchors := []int{anchor}
	done := upTo(l, day)
	slices.Reverse(done)
	for _, x := range done {
		if x.Kind == volume.Add && x.Anchor == anchor {
			anchors = append(anchors, behind(l, x.New, day)...)
		}
	}
	return anchors
}

// partAfter returns what the part says after the day, with what is removed.
func partAfter(v volume.Volume, l []volume.Erratum, p volume.Part, day int) []said {
	var list []said
	for _, x := range p.Paragraphs {
		for _, anchor := range behind(l, x.Anchor, day) {
			s, _ := saidAfter(v, l, anchor, day)
			list = append(list, s)
		}
	}
	return list
}

// readOf returns what Read has to return.
func readOf(v volume.Volume, l []volume.Erratum, day int) []volume.Paragraph {
	var list []volume.Paragraph
	for _, p := range v.Parts {
		for _, s := range partAfter(v, l, p, day) {
			if !s.removed {
				list = append(list, s.Paragraph)
			}
		}
	}
	return list
}

// printed is a line of the print: where it is, of the paragraph with the anchor,
// which is the number-th one of the part of the day.
type printed struct{ column, line, anchor, day, number int }

// linesOf prints the volume line by line.
func linesOf(v volume.Volume, l []volume.Erratum) []printed {
	var list []printed
	column := 0
	for _, p := range v.Parts {
		line, number := v.Height, 0 // no line of the column is left
		for _, s := range partAfter(v, l, p, v.Bound) {
			if s.removed {
				continue
			}
			number++
			for rest := s.Text; rest != ""; rest = rest[min(len(rest), v.Width):] {
				if line == v.Height {
					column, line = column+1, 0
				}
				line++
				list = append(list, printed{column, line, s.Anchor, p.Day, number})
			}
		}
	}
	return list
}

// placesOf returns what Print has to return.
func placesOf(v volume.Volume, l []volume.Erratum) []volume.Place {
	var list []volume.Place
	for _, x := range linesOf(v, l) {
		if n := len(list); n > 0 && list[n-1].Anchor == x.anchor {
			list[n-1].Lines++
		} else {
			list = append(list, place(x.anchor, x.column, x.line, 1))
		}
	}
	return list
}

// citedAs returns the citation of a line of the print in the style Column, and of
// its paragraph in the style Numbered.
func (x printed) citedAs(v volume.Volume, style uint8) string {
	if style == volume.Column {
		return fmt.Sprintf("vol. %d, col. %d, l. %d", v.Number, x.column, x.line)
	}
	return fmt.Sprintf("vol. %d, %d, par. %d", v.Number, x.day, x.number)
}

// citeOf returns what Cite has to return, if volume and errata are valid.
func citeOf(v volume.Volume, l []volume.Erratum, anchor int, style uint8, day int) (string, api.Errno) {
	if style > 2 || style == volume.Anchored && badDay(day) {
		return "", api.ErrRange
	}
	if style == volume.Anchored {
		if _, found := saidAfter(v, l, anchor, day); found {
			return fmt.Sprintf("%d@%d", anchor, day), api.OK
		}
		return "", api.ErrNone
	}
	for _, x := range linesOf(v, l) {
		if x.anchor == anchor {
			return x.citedAs(v, style), api.OK
		}
	}
	return "", api.ErrNone
}

// The forms of citations: a number has up to six digits, a day up to five.
const (
	aNumber = `(0|[1-9][0-9]{0,5})`
	aDay    = `(0|[1-9][0-9]{0,4})`
)

var (
	columnForm   = regexp.MustCompile(`^vol\. ` + aNumber + `, col\. ` + aNumber + `, l\. ` + aNumber + `$`)
	numberedForm = regexp.MustCompile(`^vol\. ` + aNumber + `, ` + aDay + `, par\. ` + aNumber + `$`)
	anchoredForm = regexp.MustCompile(`^` + aNumber + `@` + aDay + `$`)
)

// resolveOf returns what Resolve has to return, if volume and errata are valid: it
// looks for the citation among those of all lines and paragraphs.
func resolveOf(v volume.Volume, l []volume.Erratum, cite string) (anchor, day int, e api.Errno) {
	if anchoredForm.MatchString(cite) {
		a, d, _ := strings.Cut(cite, "@")
		anchor, _ = strconv.Atoi(a)
		day, _ = strconv.Atoi(d)
		if _, found := saidAfter(v, l, anchor, day); !found {
			return 0, 0, api.ErrNone
		}
		return anchor, day, api.OK
	}
	if !columnForm.MatchString(cite) && !numberedForm.MatchString(cite) {
		return 0, 0, api.ErrForm
	}
	for _, x := range linesOf(v, l) {
		if cite == x.citedAs(v, volume.Column) || cite == x.citedAs(v, volume.Numbered) {
			return x.anchor, v.Bound, api.OK
		}
	}
	return 0, 0, api.ErrNone
}

// text throws a text of so many bytes at most.
func (d *dice) text(most int) string {
	b := make([]byte, d.roll(1, most))
	for i := range b {
		b[i] = byte(d.roll(' ', '~'))
	}
	return string(b)
}

// distinct throws so many numbers from lo to hi, no two of them the same.
func (d *dice) distinct(count, lo, hi int) []int {
	var l []int
	for len(l) < count {
		if n := d.roll(lo, hi); !slices.Contains(l, n) {
			l = append(l, n)
		}
	}
	return l
}

// volume throws a valid volume with so many paragraphs at most, in anchors up to the
// most; it is bound on a day up to 20.
func (d *dice) volume(paragraphs, mostAnchor int) volume.Volume {
	v := bound(d.roll(1, 99), d.roll(8, 20), d.roll(1, 6), d.roll(10, 25))
	days := d.distinct(d.roll(0, 6), 0, v.Bound)
	slices.Sort(days)
	for _, day := range days {
		v.Parts = append(v.Parts, part(day))
	}
	if len(days) == 0 {
		return v
	}
	for _, anchor := range d.distinct(d.roll(0, paragraphs), 1, mostAnchor) {
		p := &v.Parts[d.roll(0, len(days)-1)]
		p.Paragraphs = append(p.Paragraphs, says(anchor, d.text(d.roll(1, 50))))
	}
	return v
}

// erratum throws an erratum with the number and the day, of one of these anchors.
func (d *dice) erratum(number, day int, anchors []int, fresh int) volume.Erratum {
	anchor := anchors[d.roll(0, len(anchors)-1)]
	switch d.roll(0, 5) {
	case 0, 1:
		return change(number, day, anchor, d.text(50))
	case 2:
		return remove(number, day, anchor)
	}
	return add(number, day, anchor, fresh, d.text(50))
}

// errata throws so many valid errata of the volume at most, up to the day, in any
// order; they add up to what is above the most anchor of the volume.
func (d *dice) errata(v volume.Volume, count, lastDay, mostAnchor int) []volume.Erratum {
	anchors := ownAnchors(v)
	if len(anchors) == 0 {
		return nil
	}
	var dated []volume.Erratum
	for _, number := range d.distinct(d.roll(0, count), 1, 60) {
		dated = append(dated, remove(number, d.roll(0, lastDay), 0))
	}
	var l []volume.Erratum
	for _, x := range upTo(dated, lastDay) {
		fresh := mostAnchor + 1 + len(l)
		x = d.erratum(x.Number, x.Day, anchors, fresh)
		if x.Kind == volume.Add {
			anchors = append(anchors, fresh)
		}
		l = append(l, x)
	}
	mix(d, l)
	return l
}

// split returns those of the errata that are issued up to the day, and the others.
func split(l []volume.Erratum, day int) (early, late []volume.Erratum) {
	for _, x := range l {
		if x.Day <= day {
			early = append(early, x)
		} else {
			late = append(late, x)
		}
	}
	return early, late
}

package volume

import (
	"iter"
	"strconv"
	"strings"

	"palantype/api"
)

// noAnchor is the anchor of no paragraph.
const noAnchor = 0

// mostNumber is the greatest number in a citation, but for days.
const mostNumber = 999999

// numbers are those of a citation, in the order of its text.
type numbers [3]int

// style is a style of citations: its text, with a capital for each number, D for
// that of a day; and the numbers by which paragraphs of a volume are cited, with
// their anchors, the first ones of a paragraph being those of its citation.
type style struct {
	pattern string
	cited   func(*book) iter.Seq2[numbers, int]
}

// styles returns what each style is.
func styles() [3]style {
	return [...]style{
		Column:   {"vol. V, col. C, l. L", (*book).byLine},
		Numbered: {"vol. V, D, par. N", (*book).byNumber},
		Anchored: {"A@D", (*book).byAnchor},
	}
}

// citedAfter returns the day after which a paragraph is that is cited in the style
// with the code; the day is that of the citation, if it has one.
func (v Volume) citedAfter(code uint8, day int) int {
	if code == Anchored {
		return day
	}
	return v.Bound
}

// byLine gives the numbers of each line of the print.
func (b *book) byLine() iter.Seq2[numbers, int] {
	return func(yield func(numbers, int) bool) {
		for _, p := range b.places() {
			for i := range p.Lines {
				line := p.Line - 1 + i // as if the column went on
				if !yield(numbers{b.Number, p.Column + line/b.Height, line%b.Height + 1}, p.Anchor) {
					return
				}
			}
		}
	}
}

// byNumber gives the numbers of each paragraph of the print.
func (b *book) byNumber() iter.Seq2[numbers, int] {
	return func(yield func(numbers, int) bool) {
		for _, part := range b.Parts {
			for i, p := range b.read(part) {
				if !yield(numbers{b.Number, part.Day, i + 1}, p.Anchor) {
					return
				}
			}
		}
	}
}

// byAnchor gives the numbers of each paragraph, removed or not.
func (b *book) byAnchor() iter.Seq2[numbers, int] {
	return func(yield func(numbers, int) bool) {
		for _, anchor := range b.anchors() {
			if !yield(numbers{anchor, b.day}, anchor) {
				return
			}
		}
	}
}

// cite returns the citation of the paragraph, or none if that cannot be cited.
func (b *book) cite(anchor int, s style) string {
	for n, cited := range s.cited(b) {
		if cited == anchor {
			return written(s.pattern, n[:]...)
		}
	}
	return ""
}

// resolve returns the anchor of the paragraph with these numbers, or noAnchor.
func (b *book) resolve(n numbers, s style) int {
	for other, anchor := range s.cited(b) {
		if other == n {
			return anchor
		}
	}
	return noAnchor
}

// isNumber reports whether a number stands for this byte of a pattern.
func isNumber(b byte) bool { return within(int(b), 'A', 'Z') }

// mostFor returns the greatest number that stands for this byte of a pattern.
func mostFor(b byte) int {
	if b == 'D' {
		return api.MaxCalendar
	}
	return mostNumber
}

// written returns the pattern with as many of the numbers as it needs.
func written(pattern string, list ...int) string {
	var text []byte
	for _, b := range []byte(pattern) {
		if isNumber(b) {
			text = strconv.AppendInt(text, int64(list[0]), 10)
			list = list[1:]
		} else {
			text = append(text, b)
		}
	}
	return string(text)
}

// parse returns the code of the style of a citation, and its numbers; or ErrForm.
func parse(text string) (code uint8, n numbers, e api.Errno) {
	for i, s := range styles() {
		if n, e = readBy(s.pattern, text); e == api.OK {
			return uint8(i), n, api.OK
		}
	}
	return 0, numbers{}, api.ErrForm
}

// noForm is thrown where a text has not the form of the pattern: the rest of it.
type noForm string

// readBy reads the text by the pattern.
func readBy(pattern, text string) (n numbers, e api.Errno) {
	defer func() {
		if _, thrown := recover().(noForm); thrown {
			n, e = numbers{}, api.ErrForm
		}
	}()
	count := 0
	for _, b := range []byte(pattern) {
		if isNumber(b) {
			n[count], text = cutNumber(text, mostFor(b))
			count++
		} else {
			text = cutByte(text, b)
		}
	}
	if text != "" {
		panic(noForm(text))
	}
	return n, api.OK
}

// cutNumber returns the number with which the text begins, and the rest of it; or
// throws it.
func cutNumber(text string, most int) (n int, rest string) {
	rest = strings.TrimLeft(text, "0123456789")
	digits := strings.TrimSuffix(text, rest)
	n, _ = strconv.Atoi(digits) // one that is too large for an int is the largest
	if n > most || strconv.Itoa(n) != digits {
		panic(noForm(text))
	}
	return n, rest
}

// cutByte returns the text without the byte with which it begins; or throws it.
func cutByte(text string, b byte) string {
	if text == "" || text[0] != b {
		panic(noForm(text))
	}
	return text[1:]
}

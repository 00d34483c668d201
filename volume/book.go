package volume

import (
	"slices"

	"palantype/api"
)

// book is a volume as it is after a day. What was removed keeps its place in it.
type book struct {
	Volume
	day     int
	removed map[int]bool // by anchor
}

// open returns the volume after the day, with what the errata did up to it; or the
// first error of what is given.
func open(v Volume, errata []Erratum, day int) (*book, api.Errno) {
	if e := v.fault(); e != api.OK {
		return nil, e
	}
	if e := v.faultOf(errata); e != api.OK {
		return nil, e
	}
	if !validDay(day) {
		return nil, api.ErrRange
	}
	b := &book{v.copied(), day, map[int]bool{}}
	for x := range issued(errata, day) {
		kinds()[x.Kind].do(b, x)
	}
	return b, api.OK
}

// copied returns the volume with memory of its own, as errata write into it.
func (v Volume) copied() Volume {
	v.Parts = slices.Clone(v.Parts)
	for i := range v.Parts {
		v.Parts[i].Paragraphs = slices.Clone(v.Parts[i].Paragraphs)
	}
	return v
}

// find returns the part that has the paragraph with the anchor, removed or not, and
// at which index; or no part if there is none.
func (b *book) find(anchor int) (part *Part, at int) {
search:
	for i := range b.Parts {
		for k, p := range b.Parts[i].Paragraphs {
			if p.Anchor == anchor {
				part, at = &b.Parts[i], k
				break search
			}
		}
	}
	return part, at
}

// change puts the Text in the place of what the paragraph said, if it is not removed.
func (b *book) change(x Erratum) {
	if part, at := b.find(x.Anchor); !b.removed[x.Anchor] {
		part.Paragraphs[at].Text = x.Text
	}
}

// remove removes the paragraph.
func (b *book) remove(x Erratum) { b.removed[x.Anchor] = true }

// add adds a paragraph behind the one with the Anchor, ahead of what was added there
// until now.
func (b *book) add(x Erratum) {
	part, at := b.find(x.Anchor)
	part.Paragraphs = slices.Insert(part.Paragraphs, at+1, x.added())
}

// read returns the paragraphs of the parts, without what is removed.
func (b *book) read(parts ...Part) []Paragraph {
	var list []Paragraph
	for _, part := range parts {
		list = append(list, part.Paragraphs...)
	}
	return slices.DeleteFunc(list, func(p Paragraph) bool { return b.removed[p.Anchor] })
}

// portions returns how many portions of the size it takes to have the amount.
func portions(amount, size int) int { return (amount + size - 1) / size }

// places returns the places of what is read, if this is the print.
func (b *book) places() []Place {
	var list []Place
	columns := 0 // that the parts ahead have
	for _, part := range b.Parts {
		lines := 0 // of the part so far
		for _, p := range b.read(part) {
			place := Place{p.Anchor, columns + lines/b.Height + 1, lines%b.Height + 1, portions(len(p.Text), b.Width)}
			list = append(list, place)
			lines += place.Lines
		}
		columns += portions(lines, b.Height)
	}
	return list
}

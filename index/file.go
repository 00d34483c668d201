package index

import (
	"bytes"
	"maps"
	"slices"
	"strconv"
	"strings"

	"palantype/api"
)

// What stands in a file between names, places and numbers.
const (
	colon     = ":"
	semicolon = ";"
	comma     = ","
	equals    = " = "
	stroke    = "/"
	hyphen    = "-"
	blank     = " "
	lineFeed  = "\n"
)

// file returns the file of the index.
func file(l []Heading) []byte {
	lines := map[string]string{} // by the names with which they begin
	for _, h := range l {
		lines[h.Name] = h.line()
		for _, name := range h.Variants {
			lines[name] = name + equals + h.Name
		}
	}
	var b []byte
	for _, name := range slices.SortedFunc(maps.Keys(lines), inOrder) {
		b = append(b, lines[name]+lineFeed...)
	}
	return b
}

// line returns the line of the heading.
func (h Heading) line() string {
	var places []string
	for _, p := range h.Places {
		places = append(places, p.text())
	}
	text := h.Name + colon + listed(places)
	if len(h.Also) > 0 {
		text += semicolon + listed(h.Also)
	}
	return text
}

// listed returns the items as they stand behind each other.
func listed(items []string) string {
	if len(items) == 0 {
		return ""
	}
	return blank + strings.Join(items, comma+blank)
}

// text returns the text of the place.
func (p Place) text() string {
	text := strconv.Itoa(p.Volume) + stroke + strconv.Itoa(p.From)
	if p.To > p.From {
		text += hyphen + strconv.Itoa(p.To)
	}
	return text
}

// noFile is thrown where bytes are not the file of any index: what cannot be read.
type noFile string

// read returns the index of the file. What is read is written again, and has to be the
// same bytes; so lines may be read in any way by which each file is read rightly, and
// no other bytes pass.
func read(b []byte) (l []Heading, e api.Errno) {
	defer func() {
		if _, thrown := recover().(noFile); thrown {
			l, e = nil, api.ErrForm
		}
	}()
	r := reader{variants: map[string][]string{}}
	for line := range strings.Lines(string(b)) {
		r.line(strings.TrimSuffix(line, lineFeed))
	}
	l = r.index()
	if fault(l) != api.OK || !bytes.Equal(file(l), b) {
		panic(noFile(b))
	}
	return l, api.OK
}

// reader has what was read of a file until now: headings, and variants by the Names of
// their headings, as they may stand ahead of these.
type reader struct {
	headings []Heading
	variants map[string][]string
}

// line reads a line.
func (r *reader) line(line string) {
	put := r.heading
	if strings.Contains(line, equals) {
		put = r.variant
	}
	put(line)
}

// heading reads the line of a heading.
func (r *reader) heading(line string) {
	name, rest := cut(line, colon)
	places, also, _ := strings.Cut(rest, semicolon)
	h := Heading{Name: name, Also: items(also)}
	for _, text := range items(places) {
		h.Places = append(h.Places, place(text))
	}
	r.headings = append(r.headings, h)
}

// variant reads the line of a variant.
func (r *reader) variant(line string) {
	variant, name := cut(line, equals)
	r.variants[name] = append(r.variants[name], variant)
}

// index returns the headings with their variants.
func (r *reader) index() []Heading {
	for i := range r.headings {
		h := &r.headings[i]
		h.Variants = r.variants[h.Name]
	}
	return r.headings
}

// cut returns the text ahead of what stands between, and that behind it; or throws it.
func cut(text, between string) (ahead, behind string) {
	ahead, behind, has := strings.Cut(text, between)
	if !has {
		panic(noFile(text))
	}
	return ahead, behind
}

// items returns the items that stand behind each other in the text.
func items(text string) []string {
	if text == "" {
		return nil
	}
	return strings.Split(strings.TrimPrefix(text, blank), comma+blank)
}

// place returns the place with the text, or throws it.
func place(text string) Place {
	volume, columns := cut(text, stroke)
	from, to, has := strings.Cut(columns, hyphen)
	if !has {
		to = from
	}
	return Place{number(volume), number(from), number(to)}
}

// number returns the number with the text, or throws it.
func number(text string) int {
	n, e := strconv.Atoi(text)
	if e != nil {
		panic(noFile(text))
	}
	return n
}

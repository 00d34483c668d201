package index_test

import (
	"fmt"
	"math"
	"regexp"
	"slices"
	"strconv"
	"strings"

	"palantype/api"
	"palantype/index"
)

// This file says again what the chapter defines, as literally and slowly as
// can be; the tests hold the package against it.

// dice is a row of numbers that look thrown, and are the same in each run.
type dice uint64

// roll returns a number from lo to hi.
func (d *dice) roll(lo, hi int) int {
	*d = *d*6364136223846793005 + 1442695040888963407
	return lo + int(uint64(*d)>>33)%(hi-lo+1)
}

// one reports whether it is one time in so many.
func (d *dice) one(many int) bool { return d.roll(1, many) == 1 }

// mix deals out the elements of the list.
func mix[T any](d *dice, l []T) {
	for i := range l {
		k := d.roll(0, i)
		l[i], l[k] = l[k], l[i]
	}
}

// some returns those of the list that are thrown, one of two.
func (d *dice) some(l []string) []string {
	var list []string
	for _, x := range l {
		if d.one(2) {
			list = append(list, x)
		}
	}
	return list
}

func at(volume, from, to int) index.Place { return index.Place{Volume: volume, From: from, To: to} }

// parts returns what stands between strokes; of an empty text that is nothing.
func parts(text string) []string {
	if text == "" {
		return nil
	}
	return strings.Split(text, "|")
}

// heading has variants and related names, each list with strokes between them.
func heading(name, variants, also string, places ...index.Place) index.Heading {
	return index.Heading{Name: name, Variants: parts(variants), Also: parts(also), Places: places}
}

func of(l ...index.Heading) []index.Heading { return l }

func years(l ...[]index.Heading) [][]index.Heading { return l }

// first and second are the indices of the chapter's examples, joined is what they are
// together, and joinedFile is the file of that.
func first() []index.Heading {
	return of(heading("Corn Laws", "", "Trade", at(3, 12, 14), at(4, 1, 1)), heading("Lee Ann", "A Lee", "", at(3, 7, 7)), heading("Trade", "", "", at(3, 13, 13)))
}

func second() []index.Heading {
	return of(heading("A Lee", "Lady Lee", "", at(9, 1, 2)), heading("Corn laws", "Corn Laws", "", at(4, 2, 2)))
}

func joined() []index.Heading {
	return of(
		heading("A Lee", "Lady Lee|Lee Ann", "", at(3, 7, 7), at(9, 1, 2)),
		heading("Corn Laws", "Corn laws", "Trade", at(3, 12, 14), at(4, 1, 2)),
		heading("Trade", "", "", at(3, 13, 13)),
	)
}

const joinedFile = "A Lee: 3/7, 9/1-2\nCorn Laws: 3/12-14, 4/1-2; Trade\nCorn laws = Corn Laws\nLady Lee = A Lee\nLee Ann = A Lee\nTrade: 3/13\n"

// cloned returns a copy that shares no memory.
func cloned(l []index.Heading) []index.Heading {
	l = slices.Clone(l)
	for i, h := range l {
		l[i].Variants, l[i].Also, l[i].Places = slices.Clone(h.Variants), slices.Clone(h.Also), slices.Clone(h.Places)
	}
	return l
}

// sameHeading and same say whether both are the same; nil and empty lists are.
func sameHeading(a, b index.Heading) bool {
	return a.Name == b.Name && slices.Equal(a.Variants, b.Variants) && slices.Equal(a.Also, b.Also) && slices.Equal(a.Places, b.Places)
}

func same(a, b []index.Heading) bool { return slices.EqualFunc(a, b, sameHeading) }

// keyOf returns the key of a text.
func keyOf(text string) string {
	key := ""
	for i := range len(text) {
		if at := strings.IndexByte("ABCDEFGHIJKLMNOPQRSTUVWXYZ", text[i]); at >= 0 {
			key += "abcdefghijklmnopqrstuvwxyz"[at : at+1]
		} else if strings.IndexByte("abcdefghijklmnopqrstuvwxyz0123456789", text[i]) >= 0 {
			key += text[i : i+1]
		}
	}
	return key
}

// beforeOf says whether the text a comes before b.
func beforeOf(a, b string) bool {
	if keyOf(a) != keyOf(b) {
		return keyOf(a) < keyOf(b)
	}
	return a < b
}

// badName says whether the text is no name.
func badName(text string) bool {
	bad := text == "" || len(text) > 40
	for i := range len(text) {
		blank := text[i] == ' '
		bad = bad || text[i] < 32 || text[i] > 126 || text[i] == ',' || text[i] == ':' || text[i] == ';' || text[i] == '='
		bad = bad || blank && (i == 0 || i == len(text)-1 || text[i-1] == ' ')
	}
	return bad
}

// badNames says whether the list has too many elements, or such as are no names, or
// does not rise.
func badNames(l []string) bool {
	bad := len(l) > 8
	for i, name := range l {
		bad = bad || badName(name) || i > 0 && !beforeOf(l[i-1], name)
	}
	return bad
}

// badPlaces says whether there are too many places, or such as cannot be, or they are
// not in order.
func badPlaces(l []index.Place) bool {
	if len(l) > 30 {
		return true
	}
	for _, p := range l {
		if p.Volume < 1 || p.Volume > 999 || p.From < 1 || p.From > p.To || p.To > 9999 {
			return true
		}
	}
	for i, p := range l {
		if i > 0 && (p.Volume < l[i-1].Volume || p.Volume == l[i-1].Volume && p.From <= l[i-1].To+1) {
			return true
		}
	}
	return false
}

// namesOf returns the Name and the variants of a heading.
func namesOf(h index.Heading) []string { return append([]string{h.Name}, h.Variants...) }

// again says whether something is in the list twice.
func again(l []string) bool {
	for i := range l {
		if slices.Contains(l[:i], l[i]) {
			return true
		}
	}
	return false
}

// faultOf says whether a list of headings is an index.
func faultOf(l []index.Heading) api.Errno {
	if len(l) > 60 {
		return api.ErrLimit
	}
	var all []string
	for _, h := range l {
		if badName(h.Name) || badNames(h.Variants) || badNames(h.Also) || badPlaces(h.Places) {
			return api.ErrArg
		}
		all = append(all, namesOf(h)...)
	}
	if again(all) {
		return api.ErrTwice
	}
	for i, h := range l {
		if i > 0 && !beforeOf(l[i-1].Name, h.Name) {
			return api.ErrArg
		}
		for _, name := range h.Also {
			if !slices.ContainsFunc(l, func(o index.Heading) bool { return o.Name == name && o.Name != h.Name }) {
				return api.ErrArg
			}
		}
	}
	return api.OK
}

// together returns the names that belong together, for each name that there is: to
// begin with a name alone, and then, again and again, all names of all headings that
// have one of them.
func together(all []index.Heading) map[string][]string {
	sets := map[string][]string{}
	for _, h := range all {
		for _, name := range namesOf(h) {
			set := []string{name}
			for size := 0; size < len(set); {
				size = len(set)
				for _, o := range all {
					if !slices.ContainsFunc(namesOf(o), func(n string) bool { return slices.Contains(set, n) }) {
						continue
					}
					for _, n := range namesOf(o) {
						if !slices.Contains(set, n) {
							set = append(set, n)
						}
					}
				}
			}
			sets[name] = set
		}
	}
	return sets
}

// ordered returns the names of the list in order, each once: again and again the one
// that comes before all that are left.
func ordered(l []string) []string {
	var list []string
	for {
		next, found := "", false
		for _, name := range l {
			if !slices.Contains(list, name) && (!found || beforeOf(name, next)) {
				next, found = name, true
			}
		}
		if !found {
			return list
		}
		list = append(list, next)
	}
}

// headOf returns, of the names of a set, the first one that is the Name of a heading.
func headOf(all []index.Heading, set []string) string {
	var heads []string
	for _, h := range all {
		if slices.Contains(set, h.Name) {
			heads = append(heads, h.Name)
		}
	}
	return ordered(heads)[0]
}

// columns is a set of columns, each one with its volume.
type columns map[[2]int]bool

// columnsOf returns all columns that are in a place of one of the headings.
func columnsOf(l ...index.Heading) columns {
	set := columns{}
	for _, h := range l {
		for _, p := range h.Places {
			for column := p.From; column <= p.To; column++ {
				set[[2]int{p.Volume, column}] = true
			}
		}
	}
	return set
}

// places returns the places in order that have just these columns.
func (set columns) places() []index.Place {
	var list [][2]int
	for c := range set {
		list = append(list, c)
	}
	slices.SortFunc(list, func(a, b [2]int) int { return slices.Compare(a[:], b[:]) })
	var places []index.Place
	for _, c := range list {
		if n := len(places); n > 0 && places[n-1].Volume == c[0] && places[n-1].To == c[1]-1 {
			places[n-1].To++
		} else {
			places = append(places, at(c[0], c[1], c[1]))
		}
	}
	return places
}

// without returns the names of the list but for one.
func without(l []string, name string) []string {
	var list []string
	for _, n := range l {
		if n != name {
			list = append(list, n)
		}
	}
	return list
}

// joinedOf returns the joined index, if all are valid and there are not too many.
func joinedOf(indices [][]index.Heading) ([]index.Heading, api.Errno) {
	all := slices.Concat(indices...)
	sets := together(all)
	var heads []string
	for _, set := range sets {
		heads = append(heads, headOf(all, set))
	}
	var l []index.Heading
	for _, head := range ordered(heads) {
		var from []index.Heading
		var also []string
		for _, h := range all {
			if !slices.Contains(sets[head], h.Name) {
				continue
			}
			from = append(from, h)
			for _, name := range h.Also {
				also = append(also, headOf(all, sets[name]))
			}
		}
		h := index.Heading{Name: head, Variants: without(ordered(sets[head]), head), Also: without(ordered(also), head), Places: columnsOf(from...).places()}
		if len(h.Variants) > 8 || len(h.Also) > 8 || len(h.Places) > 30 {
			return nil, api.ErrLimit
		}
		l = append(l, h)
	}
	if len(l) > 60 {
		return nil, api.ErrLimit
	}
	return l, api.OK
}

// joinOf returns what Join has to return.
func joinOf(indices [][]index.Heading) ([]index.Heading, api.Errno) {
	if len(indices) > 12 {
		return nil, api.ErrLimit
	}
	for _, l := range indices {
		if e := faultOf(l); e != api.OK {
			return nil, e
		}
	}
	return joinedOf(indices)
}

// leadOf returns at which index the heading is to which the name leads, or -1.
func leadOf(l []index.Heading, name string) int {
	return slices.IndexFunc(l, func(h index.Heading) bool { return slices.Contains(namesOf(h), name) })
}

// underOf returns the Names of the headings under which the column stands.
func underOf(l []index.Heading, volume, column int) []string {
	var list []string
	for _, h := range l {
		stands := false
		for _, p := range h.Places {
			stands = stands || p.Volume == volume && p.From <= column && column <= p.To
		}
		if stands {
			list = append(list, h.Name)
		}
	}
	return list
}

// inSteps returns the indexes of the headings that are related to the one with the
// index first in just so many steps.
func inSteps(l []index.Heading, first, steps int) []int {
	if steps == 0 {
		return []int{first}
	}
	var list []int
	for _, i := range inSteps(l, first, steps-1) {
		for k, h := range l {
			if slices.Contains(l[i].Also, h.Name) && !slices.Contains(list, k) {
				list = append(list, k)
			}
		}
	}
	return list
}

// relatedOf returns the Names of the headings that are related to the name in at most
// so many steps.
func relatedOf(l []index.Heading, name string, steps int) []string {
	found := map[int]bool{}
	for n := range steps + 1 {
		for _, i := range inSteps(l, leadOf(l, name), n) {
			found[i] = true
		}
	}
	var list []string
	for i, h := range l {
		if found[i] {
			list = append(list, h.Name)
		}
	}
	return list
}

// fileOf returns the file of an index.
func fileOf(l []index.Heading) string {
	var names []string
	for _, h := range l {
		names = append(names, namesOf(h)...)
	}
	file := ""
	for _, name := range ordered(names) {
		h := l[leadOf(l, name)]
		if h.Name != name {
			file += name + " = " + h.Name + "\n"
			continue
		}
		file += name + ":"
		for i, p := range h.Places {
			if i > 0 {
				file += ","
			}
			file += fmt.Sprintf(" %d/%d", p.Volume, p.From)
			if p.To > p.From {
				file += fmt.Sprintf("-%d", p.To)
			}
		}
		for i, other := range h.Also {
			if i > 0 {
				file += ", " + other
			} else {
				file += "; " + other
			}
		}
		file += "\n"
	}
	return file
}

// The forms of the lines of a file, and of the text of a place.
const (
	aName   = `[^,:;=\n]+`
	aNumber = `(?:0|[1-9][0-9]{0,9})`
	aPlace  = aNumber + `/` + aNumber + `(?:-` + aNumber + `)?`
)

var (
	wholeFile   = regexp.MustCompile(`^(?:[^\n]*\n)*$`)
	headingLine = regexp.MustCompile(`^(` + aName + `):((?: ` + aPlace + `(?:, ` + aPlace + `)*)?)(?:; (` + aName + `(?:, ` + aName + `)*))?$`)
	variantLine = regexp.MustCompile(`^(` + aName + `) = (` + aName + `)$`)
	placeText   = regexp.MustCompile(`(` + aNumber + `)/(` + aNumber + `)(?:-(` + aNumber + `))?`)
)

// readOf returns what Read has to return of so few bytes that it has no ErrLimit.
func readOf(file string) ([]index.Heading, api.Errno) {
	if !wholeFile.MatchString(file) {
		return nil, api.ErrForm
	}
	var l []index.Heading
	split := strings.Split(file, "\n")
	for _, line := range split[:len(split)-1] {
		if m := headingLine.FindStringSubmatch(line); m != nil {
			h := index.Heading{Name: m[1]}
			for _, p := range placeText.FindAllStringSubmatch(m[2], -1) {
				volume, _ := strconv.Atoi(p[1])
				from, _ := strconv.Atoi(p[2])
				to := from
				if p[3] != "" {
					to, _ = strconv.Atoi(p[3])
				}
				h.Places = append(h.Places, at(volume, from, to))
			}
			if m[3] != "" {
				h.Also = strings.Split(m[3], ", ")
			}
			l = append(l, h)
		} else if !variantLine.MatchString(line) {
			return nil, api.ErrForm
		}
	}
	for _, line := range split {
		m := variantLine.FindStringSubmatch(line)
		for i := range l {
			if m != nil && l[i].Name == m[2] {
				l[i].Variants = append(l[i].Variants, m[1])
			}
		}
	}
	if faultOf(l) != api.OK || fileOf(l) != file {
		return nil, api.ErrForm
	}
	return l, api.OK
}

// few are names, some of them with the same key.
func few() []string { return strings.Fields("a A b B a-b C c1 d D-1 e f2 ? - g") }

// name throws one of the few names.
func (d *dice) name() string { return few()[d.roll(0, len(few())-1)] }

// places throws places in order: at most so many, in volumes and columns up to the
// most.
func (d *dice) places(count, volumes, most int) []index.Place {
	set := columns{}
	for range d.roll(0, count) {
		from := d.roll(1, most)
		for column := from; column <= min(most, from+d.roll(0, 3)); column++ {
			set[[2]int{d.roll(1, volumes), column}] = true
		}
	}
	return set.places()
}

// index throws an index of at most so many headings, with names of the list.
func (d *dice) index(names []string, headings int) []index.Heading {
	names = slices.Clone(names)
	mix(d, names)
	var l []index.Heading
	for range d.roll(0, headings) {
		if len(names) == 0 {
			break
		}
		more := d.roll(0, min(3, len(names)-1))
		l = append(l, index.Heading{Name: names[0], Variants: ordered(names[1 : more+1]), Places: d.places(4, 3, 12)})
		names = names[more+1:]
	}
	slices.SortFunc(l, func(g, h index.Heading) int {
		if beforeOf(g.Name, h.Name) {
			return -1
		}
		return 1
	})
	var heads []string
	for _, h := range l {
		heads = append(heads, h.Name)
	}
	for i := range l {
		l[i].Also = d.some(d.some(without(heads, l[i].Name)))
		l[i].Also = l[i].Also[:min(8, len(l[i].Also))]
	}
	return l
}

// years throws indices of which many names are in several.
func (d *dice) years(count, headings int) [][]index.Heading {
	var list [][]index.Heading
	for range d.roll(0, count) {
		list = append(list, d.index(d.some(few()), headings))
	}
	return list
}

// strangeText throws a text, which mostly is no name.
func (d *dice) strangeText() string {
	l := []string{"", " ", "a ", " a", "a  b", "a b", "a,b", "a:", ";", "=", "a = b", "\x7f", "\x1f", "~", "é", "\xff", "\n", strings.Repeat("x", 40), strings.Repeat("x", 41)}
	if d.one(3) {
		return d.name()
	}
	return l[d.roll(0, len(l)-1)]
}

// strange throws a number that a caller may give by mistake, or any small one.
func (d *dice) strange() int {
	l := []int{math.MinInt, math.MinInt + 1, -1 << 32, -1, 0, 1, api.MaxVolumes, api.MaxVolumes + 1, api.MaxCol, api.MaxCol + 1, api.MaxHeadings, api.MaxHeadings + 1, 1 << 32, math.MaxInt - 1, math.MaxInt}
	if d.one(2) {
		return d.roll(-1, 20)
	}
	return l[d.roll(0, len(l)-1)]
}

// spoil makes something strange of one of the headings, if there is one.
func (d *dice) spoil(l []index.Heading) {
	if len(l) == 0 {
		return
	}
	i, k := d.roll(0, len(l)-1), d.roll(0, len(l)-1)
	h := &l[i]
	switch d.roll(0, 9) {
	case 0:
		l[i], l[k] = l[k], l[i]
	case 1:
		h.Name = d.strangeText()
	case 2:
		h.Variants = append(h.Variants, d.strangeText())
	case 3:
		h.Variants = ordered(append(h.Variants, d.name()))
	case 4:
		h.Also = append(h.Also, d.strangeText())
	case 5:
		h.Also = ordered(append(h.Also, l[k].Name))
	case 6:
		h.Places = append(h.Places, at(d.strange(), d.strange(), d.strange()))
	case 7:
		for n := range h.Places {
			p := &h.Places[n]
			*[]*int{&p.Volume, &p.From, &p.To}[d.roll(0, 2)] = d.strange()
		}
	case 8:
		slices.Reverse(h.Variants)
		slices.Reverse(h.Also)
		slices.Reverse(h.Places)
	case 9:
		l[i] = cloned(l)[k]
	}
}

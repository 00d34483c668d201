package volume_test

import (
	"math"
	"reflect"
	"slices"
	"strings"
	"testing"

	"palantype/api"
	"palantype/volume"
)

// This file tests what DOC.md promises of each layer, for this one.

// input is what the calls are given.
type input struct {
	V           volume.Volume
	L, Other    []volume.Erratum
	Anchor, Day int
	Style       uint8
	Text        string
}

// output is what all calls return for it; Codes has their errors, by order.
type output struct {
	Merge    []volume.Erratum
	Read     []volume.Paragraph
	Print    []volume.Place
	Found    string
	Removed  bool
	Cite     string
	Resolved [2]int
	Codes    [7]api.Errno
}

func callAll(x input) (y output) {
	y.Codes[0] = volume.CheckVolume(x.V)
	y.Merge, y.Codes[1] = volume.Merge(x.L, x.Other)
	y.Read, y.Codes[2] = volume.Read(x.V, x.L, x.Day)
	y.Print, y.Codes[3] = volume.Print(x.V, x.L)
	y.Found, y.Removed, y.Codes[4] = volume.Find(x.V, x.L, x.Anchor, x.Day)
	y.Cite, y.Codes[5] = volume.Cite(x.V, x.L, x.Anchor, x.Style, x.Day)
	y.Resolved[0], y.Resolved[1], y.Codes[6] = volume.Resolve(x.V, x.L, x.Text)
	return y
}

// list returns a copy with memory of its own; without elements it is nil, or
// as empty says.
func list[T any](l []T, empty bool) []T {
	if empty {
		return append([]T{}, l...)
	}
	return append([]T(nil), l...)
}

// copied returns a copy that shares no memory; lists of no elements are nil, or
// as empty says.
func copied(x input, empty bool) input {
	x.V.Parts = list(x.V.Parts, empty)
	for i := range x.V.Parts {
		x.V.Parts[i].Paragraphs = list(x.V.Parts[i].Paragraphs, empty)
	}
	x.L, x.Other = list(x.L, empty), list(x.Other, empty)
	return x
}

// settled returns a copy of the output; lists of no elements are nil.
func settled(y output) output {
	y.Merge, y.Read, y.Print = list(y.Merge, false), list(y.Read, false), list(y.Print, false)
	return y
}

// fill writes the element into all memory of the list, also behind its end.
func fill[T any](l []T, element T) {
	l = l[:cap(l)]
	for i := range l {
		l[i] = element
	}
}

// scribble writes into all memory of the output.
func scribble(y output) {
	fill(y.Merge, add(77, 77, 77, 77, "scribbled"))
	fill(y.Read, says(77, "scribbled"))
	fill(y.Print, place(77, 77, 77, 77))
}

// strange throws a number that a caller may give by mistake, or any small one.
func (d *dice) strange() int {
	l := []int{math.MinInt, math.MinInt + 1, -1 << 32, -1, 0, 1, 9, 10, api.MaxHeight, api.MaxHeight + 1, api.MaxWidth, api.MaxWidth + 1, api.MaxVolume, api.MaxVolume + 1, api.MaxAnchor, api.MaxAnchor + 1, api.MaxErratum, api.MaxErratum + 1, api.MaxCalendar, api.MaxCalendar + 1, 1 << 32, math.MaxInt - 1, math.MaxInt}
	if d.one(2) {
		return d.roll(-2, 50)
	}
	return l[d.roll(0, len(l)-1)]
}

// strangeText throws a text, which mostly no paragraph may have.
func (d *dice) strangeText() string {
	l := []string{"", " ", "~", "\x7f", "\x1f", "a\nb", "é", "\xff", strings.Repeat("x", 200), strings.Repeat("x", 201)}
	return l[d.roll(0, len(l)-1)]
}

// ofVolume and ofErrata return where the numbers of the input stand.
func (x *input) ofVolume() []*int {
	l := []*int{&x.V.Number, &x.V.Bound, &x.V.Height, &x.V.Width}
	for i := range x.V.Parts {
		p := &x.V.Parts[i]
		l = append(l, &p.Day)
		for k := range p.Paragraphs {
			l = append(l, &p.Paragraphs[k].Anchor)
		}
	}
	return l
}

func (x *input) ofErrata() []*int {
	var l []*int
	for i := range x.L {
		y := &x.L[i]
		l = append(l, &y.Number, &y.Day, &y.Anchor, &y.New)
	}
	return l
}

// texts returns where the texts of the input stand, of the volume and of the errata.
func (x *input) texts() []*string {
	var l []*string
	for _, p := range x.V.Parts {
		for k := range p.Paragraphs {
			l = append(l, &p.Paragraphs[k].Text)
		}
	}
	for i := range x.L {
		l = append(l, &x.L[i].Text)
	}
	return l
}

// valid throws an input that is valid, but for what may not be there.
func (d *dice) valid() input {
	x := input{V: d.volume(8, 40), Day: d.roll(0, 25), Style: uint8(d.roll(0, 2))}
	x.L = d.errata(x.V, 10, 25, 40)
	for _, y := range x.L {
		if d.one(2) {
			x.Other = append(x.Other, y)
		}
	}
	for i := range d.roll(0, 3) {
		x.Other = append(x.Other, d.erratum(70+i, d.roll(0, 25), []int{1, 2}, 80))
	}
	anchors := anchorsOf(x.V, x.L)
	x.Anchor = anchors[d.roll(0, len(anchors)-1)]
	x.Text = d.citation(x.V)
	return copied(x, false)
}

// input throws an input that is valid, or has something strange somewhere, or
// is strange everywhere, or is large.
func (d *dice) input() input {
	x := d.valid()
	some := func(l []*int) {
		if len(l) > 0 {
			*l[d.roll(0, len(l)-1)] = d.strange()
		}
	}
	switch d.roll(0, 13) {
	case 0:
		some(x.ofVolume())
	case 1, 2:
		some(x.ofErrata())
	case 3:
		for _, n := range append(x.ofVolume(), x.ofErrata()...) {
			*n = d.strange()
		}
	case 4:
		if l := x.texts(); len(l) > 0 {
			*l[d.roll(0, len(l)-1)] = d.strangeText()
		}
	case 5:
		if len(x.L) > 0 {
			x.L[d.roll(0, len(x.L)-1)].Kind = uint8(d.roll(0, 255))
		}
	case 6:
		for i := range x.V.Parts {
			x.V.Parts[i].Paragraphs = slices.Repeat(x.V.Parts[i].Paragraphs, d.roll(1, 9))
		}
	case 7:
		x.L = slices.Repeat(x.L, d.roll(1, 5))
		x.V.Parts = slices.Repeat(x.V.Parts, d.roll(1, 2))
	case 8, 9:
		x.Day, x.Anchor, x.Style = d.strange(), d.strange(), uint8(d.roll(0, 255))
	case 10:
		x.Text += d.strangeText()
	}
	return copied(x, false)
}

// want says the error of each call, as the chapter has it.
func (x input) want() [7]api.Errno {
	both := faultOfBoth(x.V, x.L)
	_, merge := mergedOf(x.L, x.Other)
	codes := [7]api.Errno{faultOf(x.V), merge, both, both, both, both, both}
	if both != api.OK {
		return codes
	}
	if badDay(x.Day) {
		codes[2], codes[4] = api.ErrRange, api.ErrRange
	} else if _, found := saidAfter(x.V, x.L, x.Anchor, x.Day); !found {
		codes[4] = api.ErrNone
	}
	_, codes[5] = citeOf(x.V, x.L, x.Anchor, x.Style, x.Day)
	_, _, codes[6] = resolveOf(x.V, x.L, x.Text)
	return codes
}

// P1, with R1 and R2: each call returns; it returns the first error, and beside it
// nothing else.
func TestP1AllReturn(t *testing.T) {
	d := dice(1000)
	seen := map[api.Errno]int{}
	for range 8000 {
		x := d.input()
		y := callAll(x)
		if want := x.want(); y.Codes != want {
			t.Fatalf("%v: %v, not %v", x, y.Codes, want)
		}
		for _, e := range y.Codes {
			seen[e]++
		}
		zero := [...]bool{true, len(y.Merge) == 0, len(y.Read) == 0, len(y.Print) == 0, y.Found == "" && !y.Removed, y.Cite == "", y.Resolved == [2]int{}}
		for i, z := range zero {
			if y.Codes[i] != api.OK && !z {
				t.Fatalf("%v: the call %d returns %v, and more: %v", x, i, y.Codes[i], y)
			}
		}
	}
	for _, e := range []api.Errno{api.OK, api.ErrArg, api.ErrRange, api.ErrLimit, api.ErrForm, api.ErrTwice, api.ErrNone} {
		if seen[e] < 1000 {
			t.Errorf("%v was returned %d times", e, seen[e])
		}
	}
}

// P5: errata lead to the same, in whatever order they come: dealt out to lists that
// are merged, two by two, and given in the order in which they come out or another.
func TestP5AnyOrder(t *testing.T) {
	d := dice(1005)
	dealt := 0
	for range 500 {
		v := d.volume(6, 40)
		l := d.errata(v, 12, 25, 40)
		lists := make([][]volume.Erratum, 4)
		for _, x := range l {
			for range d.roll(1, 2) { // in one list, or in two
				i := d.roll(0, 3)
				lists[i] = append(lists[i], x)
			}
		}
		for len(lists) > 1 {
			mix(&d, lists)
			lists = append(lists[2:], merge(t, lists[0], lists[1]))
		}
		if want := mergedList(t, l); !slices.Equal(lists[0], want) {
			t.Fatalf("%v are merged as %v", want, lists[0])
		}
		mixed := slices.Clone(lists[0])
		mix(&d, mixed)
		day := d.roll(0, 25)
		for _, other := range [][]volume.Erratum{lists[0], mixed} {
			holdSameAfter(t, v, l, other, day)
			holdSamePrint(t, v, l, other)
		}
		dealt += len(l)
	}
	if dealt < 2000 {
		t.Errorf("%d errata", dealt)
	}
}

// link is a citation, and what it led to when it was written.
type link struct {
	text        string
	anchor, day int
	said
}

// P7: what was printed, and what a citation leads to, does not change any more: from
// day to day there are more errata, but what was cited leads to the same words.
func TestP7ForEver(t *testing.T) {
	d := dice(1007)
	followed, altered := 0, 0
	for range 150 {
		v := d.volume(6, 40)
		l := d.errata(v, 12, 25, 40)
		var links []link
		var print []volume.Place
		for today := range 26 {
			early, _ := split(l, today)
			for _, x := range links {
				holdResolve(t, v, early, x.text, x.anchor, x.day)
				if s, _ := find(t, v, early, x.anchor, x.day); s != x.said {
					t.Fatalf("%v, %v: %q led to %v, and now to %v", v, early, x.text, x.said, s)
				}
				if s, _ := find(t, v, early, x.anchor, today); s != x.said {
					altered++
				}
				followed++
			}
			if today == v.Bound {
				print = printOf(t, v, early)
			}
			if today >= v.Bound && !slices.Equal(printOf(t, v, early), print) {
				t.Fatalf("%v, %v: the print has become another one", v, early)
			}
			for _, anchor := range anchorsOf(v, early) {
				for style := range uint8(3) {
					text, is := cite(t, v, early, anchor, style, today)
					if !is || style != volume.Anchored && today < v.Bound || !d.one(4) {
						continue
					}
					day := v.Bound
					if style == volume.Anchored {
						day = today
					}
					s, _ := find(t, v, early, anchor, day)
					links = append(links, link{text, anchor, day, s})
				}
			}
		}
	}
	if followed < 50000 || altered < 5000 {
		t.Errorf("%d are followed, %d say something else by now", followed, altered)
	}
}

// R1: what is asked ahead of what: of the volume, of the errata, and then the call's
// own questions, in the order of the table.
func TestR1Errors(t *testing.T) {
	v, l := third(), amends()
	bad := []volume.Erratum{change(1, 45, 13, "x")}
	holdNothing(t, changed(func(v *volume.Volume) { v.Parts[1].Paragraphs[0].Anchor = 11 }), bad, api.ErrTwice)
	holdNothing(t, changed(func(v *volume.Volume) { v.Width = 0 }), make([]volume.Erratum, 21), api.ErrArg)
	holdNothing(t, v, bad, api.ErrNone)
	if list, e := volume.Read(v, l, -1); list != nil || e != api.ErrRange {
		t.Fatalf("Read after -1: %v, %v", list, e)
	}
	holdNotFound(t, v, l, 13, -1, api.ErrRange)
	holdNotFound(t, v, l, 13, 1, api.ErrNone)
	holdNoCite(t, v, l, 13, 3, 1, api.ErrRange)
	holdNoCite(t, v, l, 13, volume.Anchored, -1, api.ErrRange)
	holdNoCite(t, v, l, 13, volume.Column, -1, api.ErrNone)
	holdNoResolve(t, v, l, "13@100000", api.ErrForm)
	holdNoResolve(t, v, l, "13@1", api.ErrNone)
}

// R3 and R4: lists without elements are all the same, no call writes into an
// argument, what is returned is new memory, and nothing is remembered.
func TestR3R4Memory(t *testing.T) {
	d := dice(1001)
	var last input
	for range 3000 {
		x := d.input()
		kept := copied(x, false)
		first := callAll(x)
		want := settled(first)
		if !reflect.DeepEqual(copied(x, false), kept) {
			t.Fatalf("%v has become %v", kept, x)
		}
		callAll(last)
		if y := settled(callAll(copied(x, true))); !reflect.DeepEqual(y, want) {
			t.Fatalf("%v: %v, and then %v", x, want, y)
		}
		scribble(first)
		if !reflect.DeepEqual(copied(x, false), kept) {
			t.Fatalf("what is returned for %v has memory of it", kept)
		}
		if y := settled(callAll(x)); !reflect.DeepEqual(y, want) {
			t.Fatalf("%v: %v, and then %v", x, want, y)
		}
		last = x
	}
}

// R4: a list that is merged with nothing, or already in order, is a new one.
func TestR4MergeKeepsNothing(t *testing.T) {
	for _, x := range [][2][]volume.Erratum{{amends(), nil}, {nil, amends()}, {amends(), amends()}} {
		list := merge(t, x[0], x[1])
		fill(list, volume.Erratum{})
		for _, l := range x {
			if l != nil && !slices.Equal(l, amends()) {
				t.Fatalf("what Merge returns has memory of %v", l)
			}
		}
	}
}

// R4: no call writes behind the end of an argument.
func TestR4BehindTheEnd(t *testing.T) {
	d := dice(1003)
	last, seven := says(7, "7"), add(7, 7, 7, 7, "7")
	for range 1000 {
		x := d.valid()
		var ends [][]volume.Paragraph
		for i := range x.V.Parts {
			p := &x.V.Parts[i]
			long := append(slices.Clone(p.Paragraphs), slices.Repeat([]volume.Paragraph{last}, 20)...)
			ends = append(ends, long[len(p.Paragraphs):])
			p.Paragraphs = long[:len(p.Paragraphs)]
		}
		parts := append(slices.Clone(x.V.Parts), part(7))
		x.V.Parts = parts[:len(parts)-1]
		l, other := append(slices.Clone(x.L), seven), append(slices.Clone(x.Other), seven)
		x.L, x.Other = l[:len(l)-1], other[:len(other)-1]
		callAll(x)
		wrote := func(l []volume.Paragraph) bool {
			return slices.ContainsFunc(l, func(p volume.Paragraph) bool { return p != last })
		}
		if slices.ContainsFunc(ends, wrote) || parts[len(parts)-1].Day != 7 || l[len(l)-1] != seven || other[len(other)-1] != seven {
			t.Fatalf("%v: the calls wrote behind an end", x)
		}
	}
}

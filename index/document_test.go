package index_test

import (
	"reflect"
	"slices"
	"strings"
	"testing"

	"palantype/api"
	"palantype/index"
)

// This file tests what DOC.md promises of each layer, for this one.

// input is what the calls are given.
type input struct {
	L              []index.Heading
	Years          [][]index.Heading
	A, B           string
	Volume, Column int
	Steps          int
	File           []byte
}

// output is what all calls return for it; Codes has their errors, by order.
type output struct {
	Before  bool
	Join    []index.Heading
	Lead    index.Heading
	Under   []string
	Related []string
	Write   []byte
	Read    []index.Heading
	Codes   [7]api.Errno
}

func callAll(x input) (y output) {
	y.Before = index.Before(x.A, x.B)
	y.Codes[0] = index.CheckIndex(x.L)
	y.Join, y.Codes[1] = index.Join(x.Years)
	y.Lead, y.Codes[2] = index.Lead(x.L, x.A)
	y.Under, y.Codes[3] = index.Under(x.L, x.Volume, x.Column)
	y.Related, y.Codes[4] = index.Related(x.L, x.A, x.Steps)
	y.Write, y.Codes[5] = index.Write(x.L)
	y.Read, y.Codes[6] = index.Read(x.File)
	return y
}

// list returns a copy with memory of its own; without elements it is nil, or
// as empty says.
func list[T any](l []T, empty bool) []T {
	if empty {
		return append([]T{}, l...)
	}
	return append([]T(nil), l...)
}

// copiedIndex and copied return a copy that shares no memory; lists of no elements
// are nil, or as empty says.
func copiedIndex(l []index.Heading, empty bool) []index.Heading {
	l = list(l, empty)
	for i, h := range l {
		l[i].Variants, l[i].Also, l[i].Places = list(h.Variants, empty), list(h.Also, empty), list(h.Places, empty)
	}
	return l
}

func copied(x input, empty bool) input {
	x.L, x.Years, x.File = copiedIndex(x.L, empty), list(x.Years, empty), list(x.File, empty)
	for i := range x.Years {
		x.Years[i] = copiedIndex(x.Years[i], empty)
	}
	return x
}

// settled returns a copy of the output; lists of no elements are nil.
func settled(y output) output {
	y.Join, y.Read = copiedIndex(y.Join, false), copiedIndex(y.Read, false)
	y.Lead = copiedIndex(of(y.Lead), false)[0]
	y.Under, y.Related, y.Write = list(y.Under, false), list(y.Related, false), list(y.Write, false)
	return y
}

// fill writes the element into all memory of the list, also behind its end.
func fill[T any](l []T, element T) {
	l = l[:cap(l)]
	for i := range l {
		l[i] = element
	}
}

// scribble writes into all memory of the output.
func scribble(y output) {
	for _, h := range slices.Concat(y.Join, y.Read, of(y.Lead)) {
		fill(h.Variants, "scribbled")
		fill(h.Also, "scribbled")
		fill(h.Places, at(77, 77, 77))
	}
	fill(y.Join, heading("scribbled", "", ""))
	fill(y.Read, heading("scribbled", "", ""))
	fill(y.Under, "scribbled")
	fill(y.Related, "scribbled")
	fill(y.Write, 77)
}

// valid throws an input that is valid, but for names and columns that there may not
// be.
func (d *dice) valid() input {
	x := input{L: d.index(few(), 8), Years: d.years(4, 4), Volume: d.roll(1, 4), Column: d.roll(1, 14), Steps: d.roll(0, 6)}
	x.A, x.B = d.name(), d.name()
	x.File = []byte(fileOf(x.L))
	return copied(x, false)
}

// input throws an input that is valid, or has something strange somewhere, or is
// large.
func (d *dice) input() input {
	x := d.valid()
	switch d.roll(0, 9) {
	case 0, 1:
		d.spoil(x.L)
	case 2:
		for _, l := range x.Years {
			if d.one(2) {
				d.spoil(l)
			}
		}
	case 3:
		x.Volume, x.Column, x.Steps = d.strange(), d.strange(), d.strange()
	case 4:
		x.A, x.B = d.strangeText(), d.strangeText()
	case 5:
		x.L = slices.Repeat(x.L, d.roll(1, 30))
	case 6:
		x.Years = slices.Repeat(x.Years, d.roll(1, 6))
	case 7:
		if x.File = slices.Repeat(x.File, d.roll(1, 20)); d.one(2) {
			x.File = append(x.File, make([]byte, api.MaxPages-d.roll(0, 500))...)
		}
	case 8:
		if len(x.File) > 0 {
			x.File[d.roll(0, len(x.File)-1)] = byte(d.roll(0, 255))
		}
	}
	return copied(x, false)
}

// want says the error of each call, as the chapter has it.
func (x input) want() [7]api.Errno {
	e := faultOf(x.L)
	codes := [7]api.Errno{e, 0, e, e, e, e}
	_, codes[1] = joinOf(x.Years)
	if e == api.OK {
		if x.Volume < 1 || x.Volume > 999 || x.Column < 1 || x.Column > 9999 {
			codes[3] = api.ErrRange
		}
		if leadOf(x.L, x.A) < 0 {
			codes[2], codes[4] = api.ErrNone, api.ErrNone
		}
		if x.Steps < 0 || x.Steps > 60 {
			codes[4] = api.ErrRange
		}
	}
	if len(x.File) > 200000 {
		codes[6] = api.ErrLimit
	} else {
		_, codes[6] = readOf(string(x.File))
	}
	return codes
}

// P1, with R1 and R2: each call returns; it returns the first error, and beside it
// nothing else.
func TestP1AllReturn(t *testing.T) {
	d := dice(1000)
	seen := map[api.Errno]int{}
	for range 8000 {
		x := d.input()
		y := callAll(x)
		if want := x.want(); y.Codes != want {
			t.Fatalf("%v: %v, not %v", x, y.Codes, want)
		}
		for _, e := range y.Codes {
			seen[e]++
		}
		zero := [...]bool{true, len(y.Join) == 0, sameHeading(y.Lead, index.Heading{}), len(y.Under) == 0, len(y.Related) == 0, len(y.Write) == 0, len(y.Read) == 0}
		for i, z := range zero {
			if y.Codes[i] != api.OK && !z {
				t.Fatalf("%v: the call %d returns %v, and more: %v", x, i, y.Codes[i], y)
			}
		}
	}
	for _, e := range []api.Errno{api.OK, api.ErrArg, api.ErrRange, api.ErrLimit, api.ErrForm, api.ErrTwice, api.ErrNone} {
		if seen[e] < 500 {
			t.Errorf("%v was returned %d times", e, seen[e])
		}
	}
}

// P1: what is too large for everything is refused, and not worked out.
func TestP1Large(t *testing.T) {
	name := strings.Repeat("a", 1<<20)
	h := index.Heading{Name: name, Variants: slices.Repeat([]string{name}, 1000), Also: slices.Repeat([]string{name}, 1000), Places: slices.Repeat([]index.Place{at(1, 1, 9999)}, 100000)}
	holdFault(t, api.ErrArg, h)
	holdFault(t, api.ErrLimit, slices.Repeat(of(h), 1000)...)
	holdNoJoin(t, api.ErrLimit, slices.Repeat(years(of(h)), 100000)...)
	holdBefore(t, name, name+"b", -1)
	holdNoLead(t, joined(), name)
}

// P5: indices of years lead to the same, in whatever order they come: of twelve, any
// order, and any of them joined first.
func TestP5AnyOrder(t *testing.T) {
	d := dice(1005)
	names := numbered("n", 80)
	whole, moved := 0, 0
	for range 150 {
		var l [][]index.Heading
		for range 12 {
			l = append(l, d.index(d.some(d.some(d.some(d.some(names)))), 4))
		}
		want, e := index.Join(l)
		if e != api.OK {
			for range 5 {
				mix(&d, l)
				holdNoJoin(t, e, l...)
			}
			continue
		}
		whole++
		file := fileOf(want)
		for len(l) > 1 {
			mix(&d, l)
			holdJoin(t, want, l...)
			two, refused := index.Join(l[:2])
			if refused != api.OK {
				break
			}
			l = append(years(two), l[2:]...)
			moved++
		}
		x, e := index.Join(l)
		if b, again := index.Write(x); string(b) != file || e != api.OK || again != api.OK {
			t.Fatalf("%v is written as %q, not %q", x, b, file)
		}
	}
	if whole < 20 || moved < 200 {
		t.Errorf("%d were joined, two by two %d times", whole, moved)
	}
}

// R1: what is asked ahead of what.
func TestR1Errors(t *testing.T) {
	for _, x := range []struct {
		l []index.Heading
		e api.Errno
	}{{plain(numbered("x", 61)...), api.ErrLimit}, {plain(""), api.ErrArg}, {plain("a", "a"), api.ErrTwice}, {plain("b", "a"), api.ErrArg}} {
		holdNothing(t, x.l, x.e)
	}
	holdNoRelated(t, chain(), "no name", 61, api.ErrRange)
	holdNoRelated(t, chain(), "no name", 60, api.ErrNone)
	holdNoJoin(t, api.ErrLimit, slices.Repeat(years(plain("")), 13)...)
	holdNoJoin(t, api.ErrArg, plain(""), plain("a", "a"))
	holdNoJoin(t, api.ErrTwice, plain("a", "a"), plain(""))
	holdNoJoin(t, api.ErrTwice, plain(numbered("x", 60)...), plain("y"), plain("a", "a"))
}

// R3 and R4: lists without elements are all the same, no call writes into an
// argument, what is returned is new memory, and nothing is remembered.
func TestR3R4Memory(t *testing.T) {
	d := dice(1001)
	var last input
	for range 2500 {
		x := d.input()
		kept := copied(x, false)
		first := callAll(x)
		want := settled(first)
		if !reflect.DeepEqual(copied(x, false), kept) {
			t.Fatalf("%v has become %v", kept, x)
		}
		callAll(last)
		if y := settled(callAll(copied(x, true))); !reflect.DeepEqual(y, want) {
			t.Fatalf("%v: %v, and then %v", x, want, y)
		}
		scribble(first)
		if !reflect.DeepEqual(copied(x, false), kept) {
			t.Fatalf("what is returned for %v has memory of it", kept)
		}
		if y := settled(callAll(x)); !reflect.DeepEqual(y, want) {
			t.Fatalf("%v: %v, and then %v", x, want, y)
		}
		last = x
	}
}

// R4: no two lists of one result have the same memory, up to all of their capacity.
func TestR4ListsApart(t *testing.T) {
	d := dice(1002)
	for range 1500 {
		x := d.valid()
		y := callAll(x)
		for _, l := range [][]index.Heading{y.Join, y.Read, of(y.Lead)} {
			want := copiedIndex(l, false)
			for i := range l {
				fill(l[i].Variants[len(l[i].Variants):], "scribbled")
				fill(l[i].Also[len(l[i].Also):], "scribbled")
				fill(l[i].Places[len(l[i].Places):], at(77, 77, 77))
				if !reflect.DeepEqual(copiedIndex(l, false), want) {
					t.Fatalf("%v: behind a list of %v there is another one", x, want[i])
				}
			}
			for i := range l {
				fill(l[i].Variants, "scribbled")
				fill(l[i].Places, at(77, 77, 77))
				fill(l[i].Also, "written")
				want[i] = copiedIndex(l[i:i+1], false)[0]
				if !reflect.DeepEqual(copiedIndex(l, false), want) {
					t.Fatalf("%v: two lists have one memory", x)
				}
			}
		}
	}
}

// R4: no call writes behind the end of an argument.
func TestR4BehindTheEnd(t *testing.T) {
	d := dice(1003)
	last := heading("behind", "", "")
	for range 1000 {
		x := d.valid()
		var names [][]string
		var places [][]index.Place
		for _, l := range append(slices.Clone(x.Years), x.L) {
			for i := range l {
				h := &l[i]
				v, a, p := append(slices.Clone(h.Variants), "behind"), append(slices.Clone(h.Also), "behind"), append(slices.Clone(h.Places), at(7, 7, 7))
				h.Variants, h.Also, h.Places = v[:len(v)-1], a[:len(a)-1], p[:len(p)-1]
				names, places = append(names, v, a), append(places, p)
			}
		}
		l, file := append(slices.Clone(x.L), last), append(slices.Clone(x.File), 7)
		x.L, x.File = l[:len(l)-1], file[:len(file)-1]
		callAll(x)
		wrote := !sameHeading(l[len(l)-1], last) || file[len(file)-1] != 7
		for _, n := range names {
			wrote = wrote || n[len(n)-1] != "behind"
		}
		for _, p := range places {
			wrote = wrote || p[len(p)-1] != at(7, 7, 7)
		}
		if wrote {
			t.Fatalf("%v: the calls wrote behind an end", x)
		}
	}
}

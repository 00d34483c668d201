package veil_test

import (
	"math"
	"reflect"
	"slices"
	"strings"
	"testing"

	"palantype/api"
	"palantype/veil"
)

// This file tests what DOC.md promises of each layer, for this one.

// input is what the calls are given.
type input struct {
	R, Other veil.Report
	X        veil.Reader
	Piece    int
}

// output is what all calls return for it; Codes has their errors, by order.
type output struct {
	Look    []veil.Piece
	Index   []veil.Entry
	Find    int
	Closed  []veil.Shut
	Useless []int
	Fewest  int
	Agree   bool
	Codes   [8]api.Errno
}

func callAll(x input) (y output) {
	y.Codes[0] = veil.CheckReport(x.R)
	y.Look, y.Codes[1] = veil.Look(x.R, x.X)
	y.Index, y.Codes[2] = veil.Index(x.R, x.X)
	y.Find, y.Codes[3] = veil.Find(x.R, x.X, x.Piece)
	y.Closed, y.Codes[4] = veil.Closed(x.R, x.X)
	y.Useless, y.Codes[5] = veil.Useless(x.R, x.X)
	y.Fewest, y.Codes[6] = veil.Fewest(x.R, x.X)
	y.Agree, y.Codes[7] = veil.Agree(x.R, x.Other, x.X)
	return y
}

// list returns a copy with memory of its own; without elements it is nil, or
// as empty says.
func list[T any](l []T, empty bool) []T {
	if empty {
		return append([]T{}, l...)
	}
	return append([]T(nil), l...)
}

// copied returns a copy that shares no memory; lists of no elements are nil, or
// as empty says.
func copied(x input, empty bool) input {
	for _, r := range []*veil.Report{&x.R, &x.Other} {
		r.Words, r.Orders = list(r.Words, empty), list(r.Orders, empty)
		for i := range r.Words {
			r.Words[i].Heads = list(r.Words[i].Heads, empty)
		}
	}
	x.X.May = list(x.X.May, empty)
	return x
}

// settled returns a copy of the output; lists of no elements are nil.
func settled(y output) output {
	y.Look, y.Index, y.Closed, y.Useless = list(y.Look, false), list(y.Index, false), list(y.Closed, false), list(y.Useless, false)
	for i := range y.Index {
		y.Index[i].Columns = list(y.Index[i].Columns, false)
	}
	return y
}

// fill writes the element into all memory of the list, also behind its end.
func fill[T any](l []T, element T) {
	l = l[:cap(l)]
	for i := range l {
		l[i] = element
	}
}

// scribble writes into all memory of the output.
func scribble(y output) {
	fill(y.Look, piece("scribbled", 77))
	for _, e := range y.Index {
		fill(e.Columns, 77)
	}
	fill(y.Index, entry(77))
	fill(y.Closed, shut(77, 77, 77))
	fill(y.Useless, 77)
}

// strange throws a number that a caller may give by mistake, or any small one.
func (d *dice) strange() int {
	l := []int{math.MinInt, math.MinInt + 1, -1 << 32, -1, 0, 1, api.MaxOrderKind, api.MaxOrderKind + 1, api.MaxColumn, api.MaxColumn + 1, api.MaxPrinted, api.MaxHead, api.MaxHead + 1, api.MaxYear, api.MaxYear + 1, 1 << 32, math.MaxInt - 1, math.MaxInt}
	if d.one(2) {
		return d.roll(-2, 20)
	}
	return l[d.roll(0, len(l)-1)]
}

// strangeText throws a text, which mostly is none.
func (d *dice) strangeText() string {
	l := []string{"", " ", "a b", "\x7f", "\x1f", "!", "~", "é", "\xff", strings.Repeat("x", 20), strings.Repeat("x", 21)}
	return l[d.roll(0, len(l)-1)]
}

// ofReports and ofReader return where the numbers of the input stand.
func (x *input) ofReports() []*int {
	var l []*int
	for _, r := range []*veil.Report{&x.R, &x.Other} {
		l = append(l, &r.Columns)
		for i := range r.Words {
			for k := range r.Words[i].Heads {
				l = append(l, &r.Words[i].Heads[k])
			}
		}
		for i := range r.Orders {
			o := &r.Orders[i]
			l = append(l, &o.From, &o.To, &o.Kind, &o.Until)
		}
	}
	return l
}

func (x *input) ofReader() []*int {
	l := []*int{&x.X.Year}
	for i := range x.X.May {
		l = append(l, &x.X.May[i])
	}
	return l
}

// valid throws an input that is valid, but for a piece that there may not be.
func (d *dice) valid() input {
	x := input{R: d.report(10, 8, 12), X: d.reader(9), Piece: d.roll(-1, 9)}
	x.Other = d.likeIt(x.R, x.X)
	if d.one(3) {
		x.Other = d.report(12, 6, 12)
	}
	return copied(x, false)
}

// input throws an input that is valid, or has something strange somewhere, or
// is strange everywhere, or is large.
func (d *dice) input() input {
	x := d.valid()
	some := func(l []*int) { *l[d.roll(0, len(l)-1)] = d.strange() }
	switch d.roll(0, 11) {
	case 0, 1:
		some(x.ofReports())
	case 2:
		some(x.ofReader())
		x.Piece = d.strange()
	case 3:
		for _, n := range append(x.ofReports(), x.ofReader()...) {
			*n = d.strange()
		}
	case 4:
		if len(x.R.Words) > 0 {
			x.R.Words[d.roll(0, len(x.R.Words)-1)].Text = d.strangeText()
		}
	case 5:
		if len(x.Other.Words) > 0 {
			x.Other.Words[d.roll(0, len(x.Other.Words)-1)].Text = d.strangeText()
		}
	case 6:
		x.R.Words = slices.Repeat(x.R.Words, d.roll(1, 12))
		x.R.Orders = slices.Repeat(x.R.Orders, d.roll(1, 3))
	case 7:
		x.Other.Words = slices.Repeat(x.Other.Words, d.roll(1, 12))
		for i := range x.Other.Words {
			x.Other.Words[i].Heads = slices.Repeat(x.Other.Words[i].Heads, d.roll(1, 3))
		}
	case 8:
		x.X.May = append(x.X.May, d.roll(0, 9))
		x.Piece = d.strange()
	}
	return copied(x, false)
}

// want says the error of each call, as the chapter has it.
func (x input) want() [8]api.Errno {
	report := faultOf(x.R)
	all := firstOf(report, faultOfReader(x.X))
	find := all
	if all == api.OK {
		if s := shownTo(x.R, x.X); x.Piece < 0 || x.Piece >= len(s.words) || s.words[x.Piece] < 0 {
			find = api.ErrNone
		}
	}
	return [8]api.Errno{report, all, all, find, all, all, all, firstOf(report, faultOf(x.Other), faultOfReader(x.X))}
}

// P1, with R1 and R2: each call returns; it returns the first error, and beside it
// nothing else.
func TestP1AllReturn(t *testing.T) {
	d := dice(1000)
	seen := map[api.Errno]int{}
	for range 12000 {
		x := d.input()
		y := callAll(x)
		if want := x.want(); y.Codes != want {
			t.Fatalf("%v: %v, not %v", x, y.Codes, want)
		}
		for _, e := range y.Codes {
			seen[e]++
		}
		zero := [...]bool{true, len(y.Look) == 0, len(y.Index) == 0, y.Find == 0, len(y.Closed) == 0, len(y.Useless) == 0, y.Fewest == 0, !y.Agree}
		for i, z := range zero {
			if y.Codes[i] != api.OK && !z {
				t.Fatalf("%v: the call %d returns %v, and more: %v", x, i, y.Codes[i], y)
			}
		}
	}
	for _, e := range []api.Errno{api.OK, api.ErrArg, api.ErrRange, api.ErrLimit, api.ErrNone} {
		if seen[e] < 2000 {
			t.Errorf("%v was returned %d times", e, seen[e])
		}
	}
}

// P6: a reader cannot tell two reports apart that differ only in what is hidden from
// the reader: in one hidden word, its text or its heads, or in how many there are.
func TestP6NothingShows(t *testing.T) {
	d := dice(1006)
	changed := [3]int{}
	for range 4000 {
		r, x := d.report(20, 6, 12), d.reader(9)
		hidden := hiddenFrom(t, r, x)
		if len(hidden) == 0 {
			continue
		}
		at := hidden[d.roll(0, len(hidden)-1)]
		other := cloned(r)
		kind := d.roll(0, 2)
		switch kind {
		case 0:
			other.Words[at].Text = "secret"
		case 1:
			other.Words[at].Heads = []int{2, 98}
		case 2: // one hidden word more, behind it
			other.Words = slices.Insert(other.Words, at, word("secret", 98))
			for i := range other.Orders {
				o := &other.Orders[i]
				if o.From > at {
					o.From++
				}
				if o.To > at {
					o.To++
				}
			}
		}
		changed[kind]++
		holdAgree(t, r, other, x, true)
		holdLookSame(t, r, other, x)
		for _, p := range look(t, other, x) {
			if p.Text == "secret" {
				t.Fatalf("Look of %v, %v: %v", other, x, p)
			}
		}
	}
	if slices.Min(changed[:]) < 500 {
		t.Errorf("%v were changed", changed)
	}
}

// R1: what is asked ahead of what: of a report ErrLimit, then ErrArg, then of the
// reader ErrRange, and then of the piece ErrNone.
func TestR1Errors(t *testing.T) {
	limit := change(func(r *veil.Report) { r.Words[6].Heads, r.Columns = []int{9, 8, 7, 6, 5, 4}, 0 })
	arg := change(func(r *veil.Report) { r.Columns = 0 })
	bad := in(-1, 9)
	holdNothing(t, limit, bad, api.ErrLimit)
	holdNothing(t, arg, bad, api.ErrArg)
	holdNothing(t, bern(), bad, api.ErrRange)
	if n, e := veil.Find(bern(), bad, 3); n != 0 || e != api.ErrRange {
		t.Fatalf("Find of a gap, with no reader: %v, %v", n, e)
	}
	if n, e := veil.Find(bern(), in(1970), 3); n != 0 || e != api.ErrNone {
		t.Fatalf("Find of a gap: %v, %v", n, e)
	}
}

// R3 and R4: lists without elements are all the same, no call writes into an
// argument, what is returned is new memory, and nothing is remembered.
func TestR3R4Memory(t *testing.T) {
	d := dice(1001)
	var last input
	for range 3000 {
		x := d.input()
		kept := copied(x, false)
		first := callAll(x)
		want := settled(first)
		if !reflect.DeepEqual(copied(x, false), kept) {
			t.Fatalf("%v has become %v", kept, x)
		}
		callAll(last)
		if y := settled(callAll(copied(x, true))); !reflect.DeepEqual(y, want) {
			t.Fatalf("%v: %v, and then %v", x, want, y)
		}
		scribble(first)
		if !reflect.DeepEqual(copied(x, false), kept) {
			t.Fatalf("what is returned for %v has memory of it", kept)
		}
		if y := settled(callAll(x)); !reflect.DeepEqual(y, want) {
			t.Fatalf("%v: %v, and then %v", x, want, y)
		}
		last = x
	}
}

// R4: no two entries of an index share memory, not even behind their ends.
func TestR4EntriesApart(t *testing.T) {
	d := dice(1002)
	several := 0
	for range 1000 {
		r, x := d.report(40, 4, 9), d.reader(9)
		l := index(t, r, x)
		want := indexOf(r, x)
		for i, e := range l {
			fill(e.Columns, -7)
			if !sameIndex(l[i+1:], want[i+1:]) {
				t.Fatalf("Index of %v, %v: the columns of %d are also those of another head", r, x, e.Head)
			}
		}
		if len(l) > 2 {
			several++
		}
	}
	if several < 500 {
		t.Errorf("%d have several entries", several)
	}
}

// R4: no call writes behind the end of an argument.
func TestR4BehindTheEnd(t *testing.T) {
	d := dice(1003)
	for range 1000 {
		x := d.valid()
		var ends [][]int
		longer := func(l []int) []int {
			l = append(slices.Clone(l), 7)
			ends = append(ends, l)
			return l[:len(l)-1]
		}
		var reports []veil.Report
		for _, r := range []*veil.Report{&x.R, &x.Other} {
			for i := range r.Words {
				r.Words[i].Heads = longer(r.Words[i].Heads)
			}
			long := veil.Report{Words: append(slices.Clone(r.Words), word("7")), Orders: append(slices.Clone(r.Orders), order(7, 7, 7, 7))}
			reports = append(reports, long)
			r.Words, r.Orders = long.Words[:len(long.Words)-1], long.Orders[:len(long.Orders)-1]
		}
		x.X.May = longer(x.X.May)
		callAll(x)
		for _, r := range reports {
			if r.Words[len(r.Words)-1].Text != "7" || r.Orders[len(r.Orders)-1] != order(7, 7, 7, 7) {
				t.Fatalf("%v: the calls wrote behind an end", x)
			}
		}
		if slices.ContainsFunc(ends, func(l []int) bool { return l[len(l)-1] != 7 }) {
			t.Fatalf("%v: the calls wrote behind an end", x)
		}
	}
}

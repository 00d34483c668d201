package office_test

import (
	"math"
	"reflect"
	"slices"
	"strings"
	"testing"

	"palantype/api"
	"palantype/office"
)

// This file tests what DOC.md promises of each layer, for this one.

// input is what the calls are given.
type input struct {
	R                      office.Roll
	Dates                  []office.Dates
	Office, Person, Day    int
	Paper, Quotation, Kept []string
	Places                 []int
}

// output is what all calls return for it; Codes has their errors, by order.
type output struct {
	First, Second int
	Known         []office.Known
	Surely        int
	Perhaps       []int
	Vacant        bool
	Styles        []int
	Called        string
	Places        []int
	Proved        [2]bool
	Codes         [7]api.Errno
}

func callAll(x input) (y output) {
	y.Codes[0] = office.CheckRoll(x.R)
	y.First, y.Second, y.Codes[1] = office.Clash(x.R)
	y.Known, y.Codes[2] = office.Learn(x.R)
	y.Surely, y.Perhaps, y.Vacant, y.Codes[3] = office.Holds(x.R, x.Office, x.Day)
	y.Styles, y.Codes[4] = office.Styles(x.R, x.Person, x.Day)
	y.Called, y.Codes[5] = office.Call(x.R, x.Person, x.Day)
	y.Places, y.Codes[6] = office.Quote(x.Paper, x.Quotation, x.Kept)
	y.Proved = [2]bool{office.ProveDates(x.R, x.Dates), office.ProveQuote(x.Paper, x.Quotation, x.Kept, x.Places)}
	return y
}

// list returns a copy with memory of its own; without elements it is nil, or
// as empty says.
func list[T any](l []T, empty bool) []T {
	if empty {
		return append([]T{}, l...)
	}
	return append([]T(nil), l...)
}

// copied returns a copy that shares no memory; lists of no elements are nil, or
// as empty says.
func copied(x input, empty bool) input {
	x.R.Terms, x.R.Names, x.Dates = list(x.R.Terms, empty), list(x.R.Names, empty), list(x.Dates, empty)
	x.Paper, x.Quotation, x.Kept, x.Places = list(x.Paper, empty), list(x.Quotation, empty), list(x.Kept, empty), list(x.Places, empty)
	return x
}

// settled returns a copy of the output; lists of no elements are nil.
func settled(y output) output {
	y.Known, y.Perhaps, y.Styles, y.Places = list(y.Known, false), list(y.Perhaps, false), list(y.Styles, false), list(y.Places, false)
	return y
}

// scribble writes into all memory of the output, also behind the ends of its
// lists.
func scribble(y output) {
	for i := range y.Known[:cap(y.Known)] {
		y.Known[:cap(y.Known)][i] = known(77, 77, 77, 77)
	}
	for _, l := range [][]int{y.Perhaps, y.Styles, y.Places} {
		for i := range l[:cap(l)] {
			l[:cap(l)][i] = 77
		}
	}
}

// strange throws a number that a caller may give by mistake, or any small one.
func (d *dice) strange() int {
	l := []int{math.MinInt, math.MinInt + 1, -1 << 32, -1, 0, 1, api.MaxOffices, api.MaxHolders, api.MaxHolders + 1, api.MaxQuoted, api.MaxRollDay - 1, api.MaxRollDay, api.MaxRollDay + 1, 1 << 32, math.MaxInt - 1, math.MaxInt}
	if d.one(2) {
		return d.roll(-2, 20)
	}
	return l[d.roll(0, len(l)-1)]
}

// strangeText throws a text, which mostly is none.
func (d *dice) strangeText() string {
	l := []string{"", " ", "a b", "\x7f", "\x1f", "é", "\xff\xfe", strings.Repeat("x", 33), strings.Repeat("x", 32), "...", "[x]", "[]", "~", "!"}
	return l[d.roll(0, len(l)-1)]
}

// numbers and texts return where those of the input stand.
func (x *input) numbers() []*int {
	l := []*int{&x.R.Persons, &x.R.Offices, &x.Office, &x.Person, &x.Day}
	for i := range x.R.Terms {
		c := &x.R.Terms[i]
		l = append(l, &c.Person, &c.Office, &c.From.Lo, &c.From.Hi, &c.To.Lo, &c.To.Hi)
	}
	for i := range x.R.Names {
		l = append(l, &x.R.Names[i].Person, &x.R.Names[i].Day)
	}
	for i := range x.Dates {
		l = append(l, &x.Dates[i].Begin, &x.Dates[i].End)
	}
	for i := range x.Places {
		l = append(l, &x.Places[i])
	}
	return l
}

func (x *input) texts() []*string {
	var l []*string
	for _, texts := range [][]string{x.Paper, x.Quotation, x.Kept} {
		for i := range texts {
			l = append(l, &texts[i])
		}
	}
	for i := range x.R.Names {
		l = append(l, &x.R.Names[i].Text)
	}
	return l
}

// valid throws an input that is valid, but for a roll that perhaps cannot be,
// and a quotation that perhaps does not fit.
func (d *dice) valid() input {
	var x input
	if d.one(4) {
		x.R, x.Dates = d.largeRoll(300)
	} else {
		x.R = d.smallRoll()
		x.R.Names = d.names(x.R.Persons, d.roll(0, 5), 20)
		for _, t := range x.R.Terms {
			x.Dates = append(x.Dates, dates(d.roll(t.From.Lo, t.From.Hi), d.roll(t.To.Lo, t.To.Hi)))
		}
	}
	x.Office, x.Person, x.Day = d.roll(0, x.R.Offices-1), d.roll(0, x.R.Persons-1), d.roll(0, 30)
	x.Paper = d.texts(d.roll(1, 12), "a", "b", "c", "...", "[x]")
	x.Quotation = d.quotation(x.Paper)
	x.Kept = d.texts(d.roll(0, 2), "a", "b", "c", "...")
	for range withPlaces(x.Quotation) {
		x.Places = append(x.Places, d.roll(0, len(x.Paper)-1))
	}
	if l, e := office.Quote(x.Paper, x.Quotation, x.Kept); e == api.OK && d.one(2) {
		x.Places = l
	}
	return x
}

// input throws an input that is valid, or has something strange somewhere, or
// is strange everywhere, or is large.
func (d *dice) input() input {
	x := copied(d.valid(), false)
	numbers, texts := x.numbers(), x.texts()
	switch d.roll(0, 11) {
	case 0, 1, 2:
		*numbers[d.roll(0, len(numbers)-1)] = d.strange()
	case 3:
		*numbers[d.roll(2, 4)] = d.strange()
	case 4:
		*texts[d.roll(0, len(texts)-1)] = d.strangeText()
	case 5:
		for _, n := range numbers {
			*n = d.strange()
		}
		for _, s := range texts {
			*s = d.strangeText()
		}
	case 6:
		x.R.Names = slices.Repeat(append(x.R.Names, called(0, 5, "a")), d.roll(1, 14))
		x.R.Terms = slices.Repeat(x.R.Terms, d.roll(1, 3))
		x.Paper = slices.Repeat(x.Paper, d.roll(1, 20))
		x.Quotation = slices.Repeat(x.Quotation, d.roll(1, 9))
		x.Kept = slices.Repeat(append(x.Kept, "a"), d.roll(1, 14))
	}
	return x
}

// P1, with R2: each call returns; beside an error it returns nothing else.
func TestP1AllReturn(t *testing.T) {
	d := dice(1000)
	seen := map[api.Errno]int{}
	proved := [2]int{}
	for range 12000 {
		x := d.input()
		y := callAll(x)
		for _, e := range y.Codes {
			seen[e]++
		}
		zero := [...]bool{true, y.First == 0 && y.Second == 0, len(y.Known) == 0, y.Surely == 0 && len(y.Perhaps) == 0 && !y.Vacant, len(y.Styles) == 0, y.Called == "", len(y.Places) == 0}
		for i, z := range zero {
			if y.Codes[i] != api.OK && !z {
				t.Fatalf("%v: the call %d returns %v, and more: %v", x, i, y.Codes[i], y)
			}
			if y.Codes[0] != api.OK && i != 6 && (y.Codes[i] != y.Codes[0] || y.Proved[0]) {
				t.Fatalf("%v: CheckRoll returns %v; the others %v, %v", x, y.Codes[0], y.Codes, y.Proved)
			}
		}
		if y.Codes[0] == api.OK && (y.Codes[1] == api.ErrNone) != (y.Codes[2] == api.OK) || y.Proved[0] && y.Codes[2] != api.OK || y.Proved[1] && y.Codes[6] != api.OK {
			t.Fatalf("%v: %v, %v", x, y.Codes, y.Proved)
		}
		for i, is := range y.Proved {
			if is {
				proved[i]++
			}
		}
	}
	for _, e := range []api.Errno{api.OK, api.ErrArg, api.ErrRange, api.ErrLimit, api.ErrTwice, api.ErrNone, api.ErrFail} {
		if seen[e] < 500 {
			t.Errorf("%v was returned %d times", e, seen[e])
		}
	}
	if min(proved[0], proved[1]) < 1000 {
		t.Errorf("%v were proved", proved)
	}
}

// R3 and R4: lists without elements are all the same, no call writes into an
// argument, what is returned is new memory, and nothing is remembered.
func TestR3R4Memory(t *testing.T) {
	d := dice(1001)
	var last input
	for range 3000 {
		x := d.input()
		kept := copied(x, false)
		first := callAll(x)
		want := settled(first)
		if !reflect.DeepEqual(copied(x, false), kept) {
			t.Fatalf("%v has become %v", kept, x)
		}
		callAll(last)
		if y := settled(callAll(copied(x, true))); !reflect.DeepEqual(y, want) {
			t.Fatalf("%v: %v, and then %v", x, want, y)
		}
		scribble(first)
		if !reflect.DeepEqual(copied(x, false), kept) {
			t.Fatalf("what is returned for %v has memory of it", kept)
		}
		if y := settled(callAll(x)); !reflect.DeepEqual(y, want) {
			t.Fatalf("%v: %v, and then %v", x, want, y)
		}
		last = x
	}
}

// R4: no call writes behind the end of an argument.
func TestR4BehindTheEnd(t *testing.T) {
	d := dice(1002)
	for range 300 {
		x := d.valid()
		terms, names := append(slices.Clone(x.R.Terms), term(7, 7, 7, 7, 7, 7)), append(slices.Clone(x.R.Names), called(7, 7, "7"))
		paper, quotation, kept := append(slices.Clone(x.Paper), "7"), append(slices.Clone(x.Quotation), "7"), append(slices.Clone(x.Kept), "7")
		x.R.Terms, x.R.Names = terms[:len(terms)-1], names[:len(names)-1]
		x.Paper, x.Quotation, x.Kept = paper[:len(paper)-1], quotation[:len(quotation)-1], kept[:len(kept)-1]
		callAll(x)
		if terms[len(terms)-1].Person != 7 || names[len(names)-1].Text != "7" || paper[len(paper)-1] != "7" || quotation[len(quotation)-1] != "7" || kept[len(kept)-1] != "7" {
			t.Fatalf("%v: the calls wrote behind an end", x)
		}
	}
}

// P3: whoever truly held an office is among those whom Holds names, and whom it
// names alone, it was: surely, or as it was not vacant.
func TestP3Whoever(t *testing.T) {
	d := dice(1003)
	all, surely, several := 0, 0, 0
	for i := range 60 {
		last := []int{60, 300, api.MaxRollDay}[i%3]
		r, l := d.largeRoll(last)
		for _, day := range d.daysOf(r, l, last) {
			of := d.roll(0, r.Offices-1)
			h, truly := heldOn(t, r, of, day), holdersOn(r, l, of, day)
			if len(truly) > 1 {
				t.Fatalf("%v: %v hold %d on %d", r, truly, of, day)
			}
			if len(truly) == 0 && (h.surely != -1 || !h.vacant) || h.surely != -1 && h.surely != truly[0] {
				t.Fatalf("%v: %v hold %d on %d, but: %v", r, truly, of, day, h)
			}
			if len(truly) == 0 {
				continue
			}
			if !slices.Contains(h.perhaps, truly[0]) {
				t.Fatalf("%v: %v hold %d on %d, but: %v", r, truly, of, day, h)
			}
			all++
			if h.surely != -1 {
				surely++
			}
			if len(h.perhaps) > 1 {
				several++
			}
		}
	}
	if all < 1000 || surely < 500 || several < 50 {
		t.Errorf("%d, %d of them surely, %d among several", all, surely, several)
	}
}

// P4: each word of a quotation is followed to the same word of the paper, or is a
// remark that was put for one; and words of the paper that the quotation does not
// have are left out only where it says so, and only if they need not stay.
func TestP4EachWord(t *testing.T) {
	d := dice(1004)
	quoted, remarks, leftOut := 0, 0, 0
	for range 8000 {
		paper := d.texts(d.roll(1, api.MaxQuoted), "a", "b", "c", "d", "e", "f", "g")
		quotation := d.quotation(paper)
		kept := d.texts(d.roll(0, 1), "a", "b")
		places, e := office.Quote(paper, quotation, kept)
		if e != api.OK {
			continue
		}
		next, gap := -1, true // the place of what stands next, if no gap does
		for _, text := range quotation {
			if isGap(text) {
				gap = true
				continue
			}
			place := places[0]
			places = places[1:]
			if !gap && place != next {
				t.Fatalf("%q from %q: from %d to %d without a gap", quotation, paper, next, place)
			}
			if next != -1 && slices.ContainsFunc(paper[next:place], func(s string) bool { return slices.Contains(kept, s) }) {
				t.Fatalf("%q from %q: %q are left out, but %q stay", quotation, paper, paper[next:place], kept)
			}
			if next != -1 {
				leftOut += place - next
			}
			switch {
			case isRemark(text):
				remarks++
			case text == paper[place]:
				quoted++
			default:
				t.Fatalf("%q from %q: %q is at %d", quotation, paper, text, place)
			}
			next, gap = place+1, false
		}
		if len(places) > 0 {
			t.Fatalf("%q from %q: %v at the end", quotation, paper, places)
		}
	}
	if quoted < 10000 || remarks < 1000 || leftOut < 1000 {
		t.Errorf("%d words, %d remarks, %d left out", quoted, remarks, leftOut)
	}
}

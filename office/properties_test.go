package office_test

import (
	"slices"
	"testing"

	"palantype/api"
	"palantype/office"
)

// learnt returns what Learn does of a roll that can be.
func learnt(t *testing.T, r office.Roll) []office.Known {
	t.Helper()
	l, e := office.Learn(r)
	if len(l) != len(r.Terms) || e != api.OK {
		t.Fatalf("Learn of %v: %v, %v", r, l, e)
	}
	return l
}

// heldOn returns what Holds does of valid arguments, and stylesOf what Styles
// does.
func heldOn(t *testing.T, r office.Roll, of, day int) held {
	t.Helper()
	s, p, v, e := office.Holds(r, of, day)
	if e != api.OK {
		t.Fatalf("Holds of %v, %d on %d: %v", r, of, day, e)
	}
	return held{s, p, v}
}

func stylesOf(t *testing.T, r office.Roll, person, day int) []int {
	t.Helper()
	l, e := office.Styles(r, person, day)
	if e != api.OK {
		t.Fatalf("Styles of %v, %d on %d: %v", r, person, day, e)
	}
	return l
}

// clashes says whether Clash finds two terms that clash.
func clashes(t *testing.T, r office.Roll) bool {
	t.Helper()
	_, _, e := office.Clash(r)
	if e != api.OK && e != api.ErrNone {
		t.Fatalf("Clash of %v: %v", r, e)
	}
	return e == api.OK
}

// holdDay holds what is said of one day against right dates, and returns how
// many hold an office.
func holdDay(t *testing.T, r office.Roll, l []office.Dates, day int) int {
	t.Helper()
	count := 0
	for of := range r.Offices {
		h, holders := heldOn(t, r, of, day), holdersOn(r, l, of, day)
		for _, person := range holders {
			if !slices.Contains(h.perhaps, person) {
				t.Fatalf("%v, %v: %d holds %d on %d, but: %v", r, l, person, of, day, h)
			}
		}
		if h.surely != -1 && !slices.Contains(holders, h.surely) || len(holders) == 0 && !h.vacant {
			t.Fatalf("%v, %v: %v hold %d on %d, but: %v", r, l, holders, of, day, h)
		}
		count += len(holders)
	}
	for person := range r.Persons {
		if style := styleOn(r, l, person, day); !slices.Contains(stylesOf(t, r, person, day), style) {
			t.Fatalf("%v, %v: the style of %d on %d is %d", r, l, person, day, style)
		}
	}
	return count
}

// holdDates holds what is known against right dates.
func holdDates(t *testing.T, r office.Roll, l []office.Dates) {
	t.Helper()
	if !office.ProveDates(r, l) {
		t.Fatalf("%v: %v is not right", r, l)
	}
	for i, k := range learnt(t, r) {
		if !in(k.Begin, l[i].Begin) || !in(k.End, l[i].End) {
			t.Fatalf("%v: the term %d has %v, but: %v", r, i, l[i], k)
		}
	}
}

// daysOf returns some days, among them all on which something begins or ends,
// by these dates or others, and those beside these.
func (d *dice) daysOf(r office.Roll, l []office.Dates, last int) []int {
	days := []int{0, last, d.roll(0, last)}
	for i, t := range r.Terms {
		for _, day := range []int{l[i].Begin, l[i].End, t.From.Lo, t.From.Hi, t.To.Lo, t.To.Hi} {
			days = append(days, day-1, day, min(day+1, last))
		}
	}
	days = slices.DeleteFunc(days, func(day int) bool { return day < 0 })
	slices.Sort(days)
	return slices.Compact(days)
}

// P5.7: with all right dates of small rolls, and some of large ones.
func TestP5_7AnyDates(t *testing.T) {
	d := dice(7)
	holders := 0
	for range 250 {
		r := d.smallRoll()
		right := allRight(r)
		for _, l := range right[:min(len(right), 100)] {
			holdDates(t, r, l)
		}
		for range min(len(right), 10) {
			holders += holdDay(t, r, right[d.roll(0, len(right)-1)], d.roll(0, 30))
		}
	}
	for _, last := range []int{60, 300, api.MaxRollDay} {
		for range 12 {
			r, l := d.largeRoll(last)
			holdDates(t, r, l)
			days := d.daysOf(r, l, last)
			for range 40 {
				holders += holdDay(t, r, l, days[d.roll(0, len(days)-1)])
			}
		}
	}
	if holders < 2000 {
		t.Errorf("%d hold an office", holders)
	}
}

// P5.8: the others need no other days than their cores for it. One day further
// is not taken any more.
func TestP5_8EachEnd(t *testing.T) {
	d := dice(8)
	taken, beyond := 0, 0
	for i := range 300 {
		r, _ := d.largeRoll([]int{60, 300, api.MaxRollDay}[i%3])
		known := learnt(t, r)
		proves := func(term, begin, end int) bool {
			l := coresOf(r)
			l[term] = dates(begin, end)
			return office.ProveDates(r, l)
		}
		for i, k := range known {
			core := coresOf(r)[i]
			if k.Begin.Lo > k.Begin.Hi || k.End.Lo > k.End.Hi {
				t.Fatalf("%v: no ranges are %v", r, k)
			}
			for _, x := range []office.Dates{dates(k.Begin.Lo, core.End), dates(k.Begin.Hi, core.End), dates(core.Begin, k.End.Lo), dates(core.Begin, k.End.Hi), dates(k.Begin.Lo, k.End.Hi)} {
				if !proves(i, x.Begin, x.End) {
					t.Fatalf("%v: %d has %v, but not %v", r, i, k, x)
				}
				taken++
			}
			for _, x := range []office.Dates{dates(k.Begin.Lo-1, core.End), dates(k.Begin.Hi+1, core.End), dates(core.Begin, k.End.Lo-1), dates(core.Begin, k.End.Hi+1)} {
				if proves(i, x.Begin, x.End) {
					t.Fatalf("%v: %d has %v, but also %v", r, i, k, x)
				}
				beyond++
			}
		}
	}
	if taken < 10000 || beyond < 8000 {
		t.Errorf("%d are taken, %d are beyond", taken, beyond)
	}
}

// P5.9
func TestP5_9OneAtATime(t *testing.T) {
	d := dice(9)
	surely, vacant, several := 0, 0, 0
	hold := func(r office.Roll, of, day int) {
		h := heldOn(t, r, of, day)
		if h.surely != -1 && (!slices.Equal(h.perhaps, []int{h.surely}) || h.vacant) || !h.vacant && len(h.perhaps) == 1 && h.surely != h.perhaps[0] {
			t.Fatalf("Holds of %v, %d on %d: %v", r, of, day, h)
		}
		switch {
		case h.surely != -1:
			surely++
		case len(h.perhaps) > 1:
			several++
		case len(h.perhaps) == 1:
			vacant++
		}
	}
	for range 400 {
		if r := d.smallRoll(); !clashes(t, r) {
			for day := range 30 {
				for of := range r.Offices {
					hold(r, of, day)
				}
			}
		}
	}
	for range 60 {
		r, l := d.largeRoll(300)
		for _, day := range d.daysOf(r, l, 300) {
			hold(r, d.roll(0, r.Offices-1), day)
		}
	}
	if surely < 1000 || vacant < 1000 || several < 500 {
		t.Errorf("%d surely, %d perhaps, %d of several", surely, vacant, several)
	}
}

// P5.10: there are right dates just if no two terms clash.
func TestP5_10RightDates(t *testing.T) {
	d := dice(10)
	can, cannot := 0, 0
	for range 4000 {
		r := d.smallRoll()
		right := allRight(r)
		if (len(right) == 0) != clashes(t, r) || office.ProveDates(r, coresOf(r)) != (len(right) > 0) {
			t.Fatalf("%v: %d right dates; clash: %v; cores: %v", r, len(right), clashes(t, r), office.ProveDates(r, coresOf(r)))
		}
		if len(right) == 0 {
			cannot++
		} else {
			can++
		}
		if _, e := office.Learn(r); (e == api.ErrFail) != (len(right) == 0) {
			t.Fatalf("%v: %d right dates; Learn: %v", r, len(right), e)
		}
	}
	if can < 2000 || cannot < 300 {
		t.Errorf("%d can be, %d cannot", can, cannot)
	}
}

// P5.10: two terms that clash alone are put into other rolls; and where Clash
// finds two, they clash alone.
func TestP5_10TermsThatClashAlone(t *testing.T) {
	d := dice(101)
	put, both := 0, 0
	for range 3000 {
		begin, later := d.roll(0, 20), d.roll(5, 30)
		a, b := d.around(0, 0, dates(begin, begin+d.roll(5, 20)), 5), d.around(1, 0, dates(later, later+d.roll(5, 20)), 5)
		alone := clashes(t, bare(2, 1, a, b))
		if alone != clashing(a, b) {
			t.Fatalf("%v, %v: clash: %v", a, b, alone)
		}
		r, _ := d.largeRoll(60)
		if len(r.Terms) > api.MaxHeld-2 || r.Persons < 2 {
			continue
		}
		r.Terms = append(r.Terms, a, b)
		mix(&d, r.Terms)
		i, k, e := office.Clash(r)
		if alone && e != api.OK {
			t.Fatalf("%v and %v clash alone, but in %v: %v", a, b, r, e)
		}
		if e == api.OK && (i >= k || !clashes(t, bare(r.Persons, r.Offices, r.Terms[i], r.Terms[k]))) {
			t.Fatalf("Clash of %v: %d and %d, which do not clash alone", r, i, k)
		}
		put++
		if alone {
			both++
		}
	}
	if put < 2000 || both < 500 || both > 1500 {
		t.Errorf("%d are put into rolls, %d clash alone", put, both)
	}
}

// P5.11
func TestP5_11BetterKnown(t *testing.T) {
	d := dice(11)
	narrowed, more, better := 0, 0, 0
	inside := func(a, b office.Range) bool { return b.Lo <= a.Lo && a.Hi <= b.Hi }
	for i := range 4000 {
		r := d.smallRoll()
		if i%4 == 0 {
			r, _ = d.largeRoll([]int{60, 300}[d.roll(0, 1)])
		}
		if clashes(t, r) || len(r.Terms) == 0 || len(r.Terms) == api.MaxHeld {
			continue
		}
		x := r
		x.Terms = slices.Clone(r.Terms)
		changed := d.roll(0, len(r.Terms)-1)
		if d.one(2) {
			c := &x.Terms[changed]
			for _, n := range []*office.Range{&c.From, &c.To} {
				n.Lo = d.roll(n.Lo, n.Hi)
				n.Hi = d.roll(n.Lo, n.Hi)
			}
			narrowed++
		} else {
			begin := d.roll(0, 40)
			x.Terms = append(x.Terms, d.around(0, d.roll(0, r.Offices-1), dates(begin, begin+d.roll(1, 3)), 4))
			changed = len(r.Terms)
			more++
		}
		if clashes(t, x) {
			continue
		}
		before, after := learnt(t, r), learnt(t, x)
		for k := range r.Terms {
			if !inside(after[k].Begin, before[k].Begin) || !inside(after[k].End, before[k].End) {
				t.Fatalf("%v: the term %d has %v; %v: %v", r, k, before[k], x, after[k])
			}
			if k != changed && after[k] != before[k] {
				better++
			}
		}
	}
	if narrowed < 1000 || more < 1000 || better < 200 {
		t.Errorf("%d terms narrowed, %d added; %d others better known", narrowed, more, better)
	}
}

// P5.12: what is found is proved, and where nothing is found, nothing is.
func TestP5_12Quotations(t *testing.T) {
	d := dice(12)
	found, none := 0, 0
	for i := range 16000 {
		paper := d.texts(d.roll(1, 9), "a", "b", "c", "...", "[x]")
		if i%4 == 0 {
			paper = d.texts(d.roll(40, 80), "a", "b", "c", "d", "e", "f")
		}
		quotation := d.quotation(paper)
		kept := d.texts(d.roll(0, 2), "a", "b", "c", "...")
		if len(withPlaces(quotation)) == 0 {
			continue
		}
		places, e := office.Quote(paper, quotation, kept)
		switch {
		case e == api.OK:
			if !office.ProveQuote(paper, quotation, kept, places) {
				t.Fatalf("Quote of %q from %q with %q: %v, which is not proved", quotation, paper, kept, places)
			}
			found++
		case e != api.ErrNone:
			t.Fatalf("Quote of %q from %q with %q: %v", quotation, paper, kept, e)
		case len(paper) < 10:
			for _, l := range risingLists(len(withPlaces(quotation)), len(paper)) {
				if office.ProveQuote(paper, quotation, kept, l) {
					t.Fatalf("Quote of %q from %q with %q: none, but %v", quotation, paper, kept, l)
				}
			}
			none++
		}
	}
	if found < 3000 || none < 500 {
		t.Errorf("%d found, %d not", found, none)
	}
}

// P5.12: spans of papers.
func TestP5_12SpansOfPapers(t *testing.T) {
	d := dice(121)
	for range 1000 {
		paper := d.texts(d.roll(1, api.MaxQuoted), "a", "b", "c", "[]", "....", "[", "]")
		from := d.roll(0, len(paper)-1)
		span := paper[from : from+d.roll(1, len(paper)-from)]
		kept := d.texts(d.roll(0, api.MaxKept), "a", "b", "c", "[]", "....", "[", "]")
		places := make([]int, len(span))
		for i := range places {
			places[i] = from + i
		}
		if !office.ProveQuote(paper, span, kept, places) {
			t.Fatalf("ProveQuote of %q from %q with %q at %v", span, paper, kept, places)
		}
		first, e := office.Quote(paper, span, kept)
		if e != api.OK || slices.Compare(first, places) > 0 {
			t.Fatalf("Quote of %q from %q with %q: %v, %v, not %v", span, paper, kept, first, e, places)
		}
	}
}

// P5.13: one text of Kept more.
func TestP5_13WhatMustStay(t *testing.T) {
	d := dice(13)
	lost, later, same := 0, 0, 0
	for i := range 8000 {
		paper := d.texts(d.roll(1, 9), "a", "b", "c")
		if i%4 == 0 {
			paper = d.texts(d.roll(20, 80), "a", "b", "c", "d", "e", "f")
		}
		quotation := d.quotation(paper)
		kept := d.texts(d.roll(0, 2), "a", "b", "c", "d", "x")
		more := append(slices.Clone(kept), d.texts(1, "a", "b", "c", "d", "e")...)
		places, e := office.Quote(paper, quotation, kept)
		after, f := office.Quote(paper, quotation, more)
		if e == api.ErrNone && f != api.ErrNone || f == api.OK && !office.ProveQuote(paper, quotation, kept, after) {
			t.Fatalf("%q from %q: %v, %v with %q; %v, %v with %q", quotation, paper, places, e, kept, after, f, more)
		}
		for i := range after {
			if after[i] < places[i] {
				t.Fatalf("%q from %q: %v with %q; %v with %q", quotation, paper, places, kept, after, more)
			}
		}
		switch {
		case e == api.OK && f == api.ErrNone:
			lost++
		case e == api.OK && !slices.Equal(places, after):
			later++
		case e == api.OK:
			same++
		}
		if len(paper) > 7 {
			continue
		}
		for _, l := range risingLists(len(withPlaces(quotation)), len(paper)) {
			if office.ProveQuote(paper, quotation, more, l) && !office.ProveQuote(paper, quotation, kept, l) {
				t.Fatalf("%q from %q fits at %v with %q, but not with %q", quotation, paper, l, more, kept)
			}
		}
	}
	if lost < 100 || later < 50 || same < 2000 {
		t.Errorf("%d fit no more, %d fit later, %d as before", lost, later, same)
	}
}

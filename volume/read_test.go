package volume_test

import (
	"math"
	"slices"
	"testing"

	"palantype/api"
	"palantype/volume"
)

// holdRead holds that Read returns these paragraphs.
func holdRead(t *testing.T, v volume.Volume, l []volume.Erratum, day int, want ...volume.Paragraph) {
	t.Helper()
	if list, e := volume.Read(v, l, day); !slices.Equal(list, want) || e != api.OK {
		t.Fatalf("Read of %v, %v, %d: %v, %v, not %v", v, l, day, list, e, want)
	}
}

// holdFound holds that Find returns the text of the anchor, and whether it is removed.
func holdFound(t *testing.T, v volume.Volume, l []volume.Erratum, anchor, day int, want string, gone bool) {
	t.Helper()
	if text, removed, e := volume.Find(v, l, anchor, day); text != want || removed != gone || e != api.OK {
		t.Fatalf("Find of %v, %v, %d, %d: %v, %v, %v, not %v, %v", v, l, anchor, day, text, removed, e, want, gone)
	}
}

// holdNotFound holds that Find returns the error, and nothing else.
func holdNotFound(t *testing.T, v volume.Volume, l []volume.Erratum, anchor, day int, want api.Errno) {
	t.Helper()
	if text, removed, e := volume.Find(v, l, anchor, day); text != "" || removed || e != want {
		t.Fatalf("Find of %v, %v, %d, %d: %v, %v, %v, not %v", v, l, anchor, day, text, removed, e, want)
	}
}

// anchorsOf returns all anchors that there ever are, and some that there are not.
func anchorsOf(v volume.Volume, l []volume.Erratum) []int {
	anchors := append([]int{math.MinInt, -1, 0, 998, 999, 1000, math.MaxInt}, ownAnchors(v)...)
	for _, x := range l {
		anchors = append(anchors, x.New, x.Number, x.New+1)
	}
	slices.Sort(anchors)
	return slices.Compact(anchors)
}

// daysOf returns the days on which something may change, and those beside them.
func daysOf(v volume.Volume, l []volume.Erratum) []int {
	days := []int{0, v.Bound, api.MaxCalendar}
	for _, x := range l {
		for day := max(x.Day-1, 0); day <= min(x.Day+1, api.MaxCalendar); day++ {
			days = append(days, day)
		}
	}
	slices.Sort(days)
	return slices.Compact(days)
}

// holdSaid holds what is read and found after the day against what the chapter
// defines.
func holdSaid(t *testing.T, v volume.Volume, l []volume.Erratum, day int) {
	t.Helper()
	holdRead(t, v, l, day, readOf(v, l, day)...)
	for _, anchor := range anchorsOf(v, l) {
		if s, found := saidAfter(v, l, anchor, day); found {
			holdFound(t, v, l, anchor, day, s.Text, s.removed)
		} else {
			holdNotFound(t, v, l, anchor, day, api.ErrNone)
		}
	}
}

// holdAll holds all that is told of a valid volume with valid errata against what
// the chapter defines.
func holdAll(t *testing.T, v volume.Volume, l []volume.Erratum) {
	t.Helper()
	for _, day := range daysOf(v, l) {
		holdSaid(t, v, l, day)
		holdCited(t, v, l, volume.Anchored, day)
	}
	holdPrint(t, v, l, placesOf(v, l)...)
	holdCited(t, v, l, volume.Column, 0)
	holdCited(t, v, l, volume.Numbered, 0)
}

// house, prayers and bill are the paragraphs of the examples.
var house, prayers, bill = says(11, "The House met at two."), says(12, "Prayers."), says(15, "A bill was read.")

// P10.2: the examples of the chapter.
func TestP10_2ReadExamples(t *testing.T) {
	were, chair := says(12, "Prayers were said."), says(20, "The Speaker took the chair.")
	for _, day := range []int{0, 40, 44} {
		holdRead(t, third(), amends(), day, house, prayers, bill)
	}
	for _, day := range []int{45, 50, 59} {
		holdRead(t, third(), amends(), day, house, were, bill)
	}
	for _, day := range []int{60, 61, api.MaxCalendar} {
		holdRead(t, third(), amends(), day, chair, were, bill)
	}
	holdRead(t, third(), nil, 60, house, prayers, bill)
}

// P10.2: what errata do, and in which order: each case is an order of few letters.
func TestP10_2Read(t *testing.T) {
	a, b, c := says(1, "a"), says(2, "b"), says(3, "c")
	v := bound(1, 9, 1, 10, part(1), part(2, a, b), part(3), part(4, c))
	x, y, z := says(7, "x"), says(8, "y"), says(9, "z")
	for _, k := range []struct {
		l    []volume.Erratum
		want []volume.Paragraph
	}{
		{nil, []volume.Paragraph{a, b, c}},
		// A paragraph is added directly behind, in the same part.
		{[]volume.Erratum{add(1, 5, 1, 7, "x")}, []volume.Paragraph{a, x, b, c}},
		{[]volume.Erratum{add(1, 5, 2, 7, "x")}, []volume.Paragraph{a, b, x, c}},
		{[]volume.Erratum{add(1, 5, 3, 7, "x")}, []volume.Paragraph{a, b, c, x}},
		// What is added later is nearer, by day and then by number.
		{[]volume.Erratum{add(2, 4, 1, 7, "x"), add(1, 5, 1, 8, "y")}, []volume.Paragraph{a, y, x, b, c}},
		{[]volume.Erratum{add(1, 5, 1, 7, "x"), add(2, 5, 1, 8, "y")}, []volume.Paragraph{a, y, x, b, c}},
		{[]volume.Erratum{add(2, 5, 1, 7, "x"), add(1, 5, 1, 8, "y")}, []volume.Paragraph{a, x, y, b, c}},
		{[]volume.Erratum{add(1, 5, 1, 7, "x"), add(2, 5, 7, 8, "y"), add(3, 5, 1, 9, "z")}, []volume.Paragraph{a, z, x, y, b, c}},
		{[]volume.Erratum{add(1, 5, 1, 7, "x"), add(2, 5, 1, 9, "z"), add(3, 5, 7, 8, "y")}, []volume.Paragraph{a, z, x, y, b, c}},
		// The last change counts.
		{[]volume.Erratum{change(1, 5, 2, "x"), change(2, 5, 2, "y")}, []volume.Paragraph{a, says(2, "y"), c}},
		{[]volume.Erratum{change(2, 5, 2, "x"), change(1, 5, 2, "y")}, []volume.Paragraph{a, says(2, "x"), c}},
		{[]volume.Erratum{change(2, 3, 2, "x"), change(1, 5, 2, "y")}, []volume.Paragraph{a, says(2, "y"), c}},
		{[]volume.Erratum{add(1, 5, 2, 7, "-"), change(2, 5, 7, "x")}, []volume.Paragraph{a, b, x, c}},
		// What is removed is not read, and nothing brings it back; what is added
		// behind it is.
		{[]volume.Erratum{remove(1, 5, 1)}, []volume.Paragraph{b, c}},
		{[]volume.Erratum{remove(1, 5, 1), remove(2, 5, 3), remove(3, 5, 2)}, nil},
		{[]volume.Erratum{remove(1, 5, 1), remove(2, 5, 1), change(3, 5, 1, "x")}, []volume.Paragraph{b, c}},
		{[]volume.Erratum{remove(1, 5, 1), add(2, 5, 1, 7, "x")}, []volume.Paragraph{x, b, c}},
		{[]volume.Erratum{add(1, 5, 1, 7, "x"), remove(2, 5, 1)}, []volume.Paragraph{x, b, c}},
		{[]volume.Erratum{add(1, 5, 1, 7, "x"), remove(2, 5, 7), add(3, 5, 7, 8, "y"), add(4, 5, 1, 9, "z")}, []volume.Paragraph{a, z, y, b, c}},
		{[]volume.Erratum{remove(1, 5, 2), add(2, 5, 2, 7, "x"), add(3, 5, 2, 8, "y"), remove(4, 5, 8), add(5, 5, 8, 9, "z")}, []volume.Paragraph{a, z, x, c}},
	} {
		holdErrata(t, v, api.OK, k.l...)
		holdRead(t, v, k.l, 5, k.want...)
		holdRead(t, v, k.l, 2, a, b, c)
		mixed := slices.Clone(k.l)
		slices.Reverse(mixed)
		holdRead(t, v, mixed, 5, k.want...)
	}
	holdRead(t, bound(1, 9, 1, 10), nil, 5)
	holdRead(t, bound(1, 9, 1, 10, part(1), part(2)), nil, 5)
}

// P10.2: the day counts for errata, not for parts, nor the day Bound.
func TestP10_2ReadDays(t *testing.T) {
	l := []volume.Erratum{change(9, 0, 12, "on 0"), change(8, 40, 12, "on 40"), change(7, 50, 12, "on 50"), change(6, 51, 12, "on 51"), change(5, api.MaxCalendar, 12, "at last")}
	for _, x := range []struct {
		day  int
		want string
	}{{0, "on 0"}, {1, "on 0"}, {39, "on 0"}, {40, "on 40"}, {49, "on 40"}, {50, "on 50"}, {51, "on 51"}, {99998, "on 51"}, {99999, "at last"}} {
		holdRead(t, third(), l, x.day, house, says(12, x.want), bill)
		holdFound(t, third(), l, 12, x.day, x.want, false)
	}
	for _, day := range []int{math.MinInt, -1, api.MaxCalendar + 1, math.MaxInt} {
		if list, e := volume.Read(third(), l, day); len(list) != 0 || e != api.ErrRange {
			t.Fatalf("Read after %d: %v, %v", day, list, e)
		}
		for _, anchor := range []int{12, 13} {
			holdNotFound(t, third(), l, anchor, day, api.ErrRange)
		}
	}
}

// smallErrata are all errata of these numbers, days and anchors, of a volume with
// the paragraphs 1 and 2; each number adds an anchor of its own.
func smallErrata(number, days int, anchors ...int) []volume.Erratum {
	var l []volume.Erratum
	for day := range days {
		for _, anchor := range anchors {
			l = append(l, change(number, day, anchor, string(rune('a'+number))), remove(number, day, anchor), add(number, day, anchor, 2+number, string(rune('k'+number))))
		}
	}
	return l
}

// P10.2 to P10.5: all lists of two errata, and all of three of the same day or of
// two days, those that a volume may have, and those that are refused.
func TestP10_2AllSmallLists(t *testing.T) {
	v := bound(1, 1, 2, 10, part(0, says(1, "one, and more")), part(1, says(2, "two")))
	held, refused := 0, 0
	hold := func(l ...volume.Erratum) {
		if e := faultOfErrata(v, l); e != api.OK {
			if list, got := volume.Read(v, l, 0); len(list) != 0 || got != e {
				t.Fatalf("Read of %v, %v: %v, %v, not %v", v, l, list, got, e)
			}
			refused++
			return
		}
		for day := range 3 {
			holdRead(t, v, l, day, readOf(v, l, day)...)
			for anchor := range 7 {
				if s, found := saidAfter(v, l, anchor, day); found {
					holdFound(t, v, l, anchor, day, s.Text, s.removed)
				} else {
					holdNotFound(t, v, l, anchor, day, api.ErrNone)
				}
			}
		}
		holdPrint(t, v, l, placesOf(v, l)...)
		held++
	}
	for _, x := range smallErrata(1, 3, 1, 2, 3, 4) {
		for _, y := range smallErrata(2, 3, 1, 2, 3, 4) {
			hold(x, y)
			hold(y, x)
		}
	}
	for _, x := range smallErrata(1, 2, 1, 2, 4) {
		for _, y := range smallErrata(2, 2, 1, 3) {
			for _, z := range smallErrata(3, 2, 1, 3, 4) {
				hold(z, x, y)
			}
		}
	}
	if held < 1500 || refused < 4000 {
		t.Errorf("%d lists are held, %d refused", held, refused)
	}
}

// P10.2 to P10.5: many volumes and errata, small and large ones.
func TestP10_2Many(t *testing.T) {
	d := dice(2)
	removed, added, altered := 0, 0, 0
	for i := range 500 {
		v := d.volume(8, 40)
		l := d.errata(v, 8, 25, 40)
		if i%16 == 0 {
			v = d.volume(api.MaxParagraphs, 40)
			l = d.errata(v, api.MaxErrata, 25, 40)
		}
		holdErrata(t, v, api.OK, l...)
		for _, x := range l {
			switch x.Kind {
			case volume.Change:
				altered++
			case volume.Remove:
				removed++
			default:
				added++
			}
		}
	}
	if min(removed, added, altered) < 200 {
		t.Errorf("%d are removed, %d added, %d altered", removed, added, altered)
	}
}

// P10.4: the examples of the chapter, and the refused days.
func TestP10_4Find(t *testing.T) {
	holdFound(t, third(), amends(), 11, 60, "The House met at two.", true)
	holdFound(t, third(), amends(), 11, 59, "The House met at two.", false)
	holdNotFound(t, third(), amends(), 20, 59, api.ErrNone)
	holdFound(t, third(), amends(), 20, 60, "The Speaker took the chair.", false)
	holdFound(t, third(), amends(), 12, 44, "Prayers.", false)
	holdFound(t, third(), amends(), 12, 45, "Prayers were said.", false)
	holdFound(t, third(), amends(), 15, 0, "A bill was read.", false)
	for _, anchor := range []int{math.MinInt, -11, 0, 1, 13, 21, 999, 1000, math.MaxInt} {
		holdNotFound(t, third(), amends(), anchor, 60, api.ErrNone)
		holdNotFound(t, third(), amends(), anchor, -1, api.ErrRange)
		holdNotFound(t, third(), amends(), anchor, api.MaxCalendar+1, api.ErrRange)
	}
	holdNotFound(t, bound(1, 0, 1, 10), nil, 1, 0, api.ErrNone)
}

// P10.4: what is removed keeps the text that it had then.
func TestP10_4FindRemoved(t *testing.T) {
	l := []volume.Erratum{
		change(5, 60, 12, "first"), change(1, 61, 12, "second"), remove(4, 62, 12), change(3, 62, 12, "ahead of it"), change(6, 62, 12, "behind it"), change(2, 63, 12, "later"),
		add(10, 62, 12, 20, "added"), remove(11, 63, 20), remove(12, 64, 20), change(13, 65, 20, "late"),
	}
	for _, x := range []struct {
		anchor, day int
		want        string
		gone        bool
	}{
		{12, 59, "Prayers.", false}, {12, 60, "first", false}, {12, 61, "second", false}, {12, 62, "ahead of it", true}, {12, 63, "ahead of it", true}, {12, api.MaxCalendar, "ahead of it", true},
		{20, 62, "added", false}, {20, 63, "added", true}, {20, 64, "added", true}, {20, 65, "added", true},
	} {
		holdFound(t, third(), l, x.anchor, x.day, x.want, x.gone)
	}
	holdRead(t, third(), l, 62, house, says(20, "added"), bill)
	holdRead(t, third(), l, 63, house, bill)
}

package volume_test

import (
	"math"
	"slices"
	"strings"
	"testing"

	"palantype/api"
	"palantype/volume"
)

// read, find, printOf and cite return what the calls do of valid volumes and errata.
func read(t *testing.T, v volume.Volume, l []volume.Erratum, day int) []volume.Paragraph {
	t.Helper()
	list, e := volume.Read(v, l, day)
	if e != api.OK {
		t.Fatalf("Read of %v, %v, %d: %v", v, l, day, e)
	}
	return list
}

// find returns what is found, and false if nothing is.
func find(t *testing.T, v volume.Volume, l []volume.Erratum, anchor, day int) (said, bool) {
	t.Helper()
	text, removed, e := volume.Find(v, l, anchor, day)
	if e != api.OK && e != api.ErrNone {
		t.Fatalf("Find of %v, %v, %d, %d: %v", v, l, anchor, day, e)
	}
	return said{says(anchor, text), removed}, e == api.OK
}

func printOf(t *testing.T, v volume.Volume, l []volume.Erratum) []volume.Place {
	t.Helper()
	list, e := volume.Print(v, l)
	if e != api.OK {
		t.Fatalf("Print of %v, %v: %v", v, l, e)
	}
	return list
}

// cite returns the citation, and false if there is none.
func cite(t *testing.T, v volume.Volume, l []volume.Erratum, anchor int, style uint8, day int) (string, bool) {
	t.Helper()
	text, e := volume.Cite(v, l, anchor, style, day)
	if e != api.OK && e != api.ErrNone {
		t.Fatalf("Cite of %v, %v, %d, %d, %d: %v", v, l, anchor, style, day, e)
	}
	return text, e == api.OK
}

// merge returns both lists merged; no two errata of them may differ and have the same
// Number.
func merge(t *testing.T, a, b []volume.Erratum) []volume.Erratum {
	t.Helper()
	l, e := volume.Merge(a, b)
	if e != api.OK {
		t.Fatalf("Merge of %v, %v: %v", a, b, e)
	}
	return l
}

// holdSameAfter holds that with both lists the volume says the same after the day,
// and that the same is found and cited by anchors.
func holdSameAfter(t *testing.T, v volume.Volume, l, other []volume.Erratum, day int) {
	t.Helper()
	if a, b := read(t, v, l, day), read(t, v, other, day); !slices.Equal(a, b) {
		t.Fatalf("Read of %v, %v, %d: %v; with %v: %v", v, l, day, a, other, b)
	}
	for _, anchor := range anchorsOf(v, slices.Concat(l, other)) {
		a, found := find(t, v, l, anchor, day)
		b, too := find(t, v, other, anchor, day)
		if a != b || found != too {
			t.Fatalf("Find of %v, %v, %d, %d: %v, %v; with %v: %v, %v", v, l, anchor, day, a, found, other, b, too)
		}
		text, _ := cite(t, v, l, anchor, volume.Anchored, day)
		if again, _ := cite(t, v, other, anchor, volume.Anchored, day); text != again || (text == "") == found {
			t.Fatalf("Cite of %v, %v, %d, %d: %q; with %v: %q", v, l, anchor, day, text, other, again)
		}
	}
}

// holdSamePrint holds that with both lists the print is the same, and what is cited
// by it.
func holdSamePrint(t *testing.T, v volume.Volume, l, other []volume.Erratum) {
	t.Helper()
	if a, b := printOf(t, v, l), printOf(t, v, other); !slices.Equal(a, b) {
		t.Fatalf("Print of %v, %v: %v; with %v: %v", v, l, a, other, b)
	}
	for _, anchor := range anchorsOf(v, slices.Concat(l, other)) {
		for _, style := range []uint8{volume.Column, volume.Numbered} {
			text, _ := cite(t, v, l, anchor, style, 0)
			if again, _ := cite(t, v, other, anchor, style, 0); text != again {
				t.Fatalf("Cite of %v, %v, %d, %d: %q; with %v: %q", v, l, anchor, style, text, other, again)
			}
		}
	}
}

// P10.6: errata in another order of the list say, print and find the same.
func TestP10_6AnyOrder(t *testing.T) {
	d := dice(6)
	moved := 0
	for range 800 {
		v := d.volume(6, 40)
		l := d.errata(v, 10, 25, 40)
		other := slices.Clone(l)
		mix(&d, other)
		for _, day := range []int{d.roll(0, 25), d.roll(0, 25), 25} {
			holdSameAfter(t, v, l, other, day)
		}
		holdSamePrint(t, v, l, other)
		// So do those that were merged.
		holdSameAfter(t, v, l, merge(t, l, nil), 25)
		if !slices.Equal(l, other) {
			moved++
		}
	}
	if moved < 400 {
		t.Errorf("%d have another order", moved)
	}
}

// P10.6: all orders of a list of five.
func TestP10_6AllOrders(t *testing.T) {
	v := third()
	l := append(amends(), add(4, 60, 20, 21, "x"), change(5, 45, 12, "y"))
	var put func(list, rest []volume.Erratum)
	put = func(list, rest []volume.Erratum) {
		for i, x := range rest {
			put(append(slices.Clone(list), x), slices.Delete(slices.Clone(rest), i, i+1))
		}
		if len(rest) > 0 {
			return
		}
		for _, day := range []int{44, 45, 59, 60} {
			holdSameAfter(t, v, l, list, day)
		}
		holdSamePrint(t, v, l, list)
		holdMerge(t, list, nil, mergedList(t, l)...)
	}
	put(nil, l)
}

// mergedList returns the errata in their order.
func mergedList(t *testing.T, l []volume.Erratum) []volume.Erratum {
	t.Helper()
	want, e := mergedOf(l, nil)
	if e != api.OK {
		t.Fatalf("the test has %v for %v", e, l)
	}
	return want
}

// P10.6: a with b is b with a; a with itself is a in order; and of three lists it
// does not matter which two are merged first.
func TestP10_6Merge(t *testing.T) {
	d := dice(66)
	shared := 0
	for range 3000 {
		v := d.volume(6, 40)
		l := d.errata(v, 12, 25, 40)
		lists := make([][]volume.Erratum, 3)
		for _, x := range l {
			for i := range lists {
				if d.one(2) {
					lists[i] = append(lists[i], x)
				}
			}
		}
		for i := range lists {
			mix(&d, lists[i])
		}
		a, b, c := lists[0], lists[1], lists[2]
		ab := merge(t, a, b)
		if ba := merge(t, b, a); !slices.Equal(ab, ba) {
			t.Fatalf("Merge of %v, %v: %v; and of %v with it: %v", a, b, ab, b, ba)
		}
		if aa := merge(t, a, a); !slices.Equal(aa, mergedList(t, a)) {
			t.Fatalf("Merge of %v with itself: %v", a, aa)
		}
		all := merge(t, ab, c)
		if other := merge(t, a, merge(t, b, c)); !slices.Equal(all, other) {
			t.Fatalf("Merge of %v, %v, %v: %v, and %v", a, b, c, all, other)
		}
		if other := merge(t, merge(t, a, c), b); !slices.Equal(all, other) {
			t.Fatalf("Merge of %v, %v, %v: %v, and %v", a, b, c, all, other)
		}
		shared += len(a) + len(b) - len(ab)
	}
	if shared < 2000 {
		t.Errorf("%d are in both lists", shared)
	}
}

// P10.6: errata that are refused are refused in each order, for the same; and so are
// three lists that cannot be merged, at the first or at the second time.
func TestP10_6Refused(t *testing.T) {
	d := dice(166)
	seen := map[api.Errno]int{}
	for range 2000 {
		v := d.volume(6, 40)
		l := d.errata(v, 8, 25, 40)
		if len(l) == 0 {
			continue
		}
		x := &l[d.roll(0, len(l)-1)]
		*x = d.erratum(d.roll(0, 60), d.roll(0, 25), []int{0, x.Anchor, 41, 42}, d.roll(39, 45))
		_, e := volume.Read(v, l, 25)
		other := slices.Clone(l)
		for range 4 {
			mix(&d, other)
			if _, again := volume.Read(v, other, 25); again != e {
				t.Fatalf("Read of %v, %v: %v; with %v: %v", v, l, e, other, again)
			}
		}
		seen[e]++
	}
	for _, e := range []api.Errno{api.OK, api.ErrArg, api.ErrTwice, api.ErrNone} {
		if seen[e] < 10 {
			t.Errorf("%v is returned %d times", e, seen[e])
		}
	}
	x, y := remove(1, 5, 11), remove(1, 6, 11)
	for _, l := range [][3][]volume.Erratum{{amends()[1:], {x}, {y}}, {{y}, amends()[1:], {x}}, {{x}, {y}, amends()[1:]}} {
		_, e := volume.Merge(l[0], l[1])
		if e == api.OK {
			_, e = volume.Merge(merge(t, l[0], l[1]), l[2])
		}
		if e != api.ErrTwice {
			t.Fatalf("Merge of %v: %v", l, e)
		}
	}
}

// P10.7: errata that are issued later than a day do not change what the volume says
// after it; those that are issued later than Bound do not change the print.
func TestP10_7ForEver(t *testing.T) {
	d := dice(7)
	said, printed := 0, 0
	for range 1500 {
		v := d.volume(6, 40)
		l := d.errata(v, 10, 25, 40)
		day := d.roll(0, 25)
		early, late := split(l, day)
		for earlier := range day + 1 {
			if earlier == day || d.one(5) {
				holdSameAfter(t, v, early, l, earlier)
			}
		}
		if len(late) > 0 && !slices.Equal(read(t, v, l, day), read(t, v, l, 25)) {
			said++
		}
		early, late = split(l, v.Bound)
		holdSamePrint(t, v, early, l)
		if len(late) > 0 && !slices.Equal(read(t, v, l, v.Bound), read(t, v, l, 25)) {
			printed++
		}
	}
	if said < 400 || printed < 300 {
		t.Errorf("%d say something else later, %d behind Bound", said, printed)
	}
}

// P10.7: one more erratum of each kind, of each paragraph, on each day behind.
func TestP10_7OneMore(t *testing.T) {
	for _, anchor := range []int{11, 12, 15, 20} {
		for _, day := range []int{51, 60, 61, 99999} {
			for _, x := range []volume.Erratum{change(999, day, anchor, "x"), remove(999, day, anchor), add(999, day, anchor, 7, "y")} {
				more := append(amends(), x)
				if faultOfErrata(third(), more) != api.OK {
					continue // 20 is not there on the day 51
				}
				holdSamePrint(t, third(), amends(), more)
				for _, before := range []int{0, 44, 45, 50, 59, 60, day - 1} {
					if before < day {
						holdSameAfter(t, third(), amends(), more, before)
					}
				}
			}
		}
	}
}

// P10.8: what is cited is what the citation leads to, and after which day; also with
// errata that are issued later.
func TestP10_8Citations(t *testing.T) {
	d := dice(8)
	cited := [3]int{}
	more := 0
	for range 1200 {
		v := d.volume(8, 40)
		l := d.errata(v, 10, 25, 40)
		for style := range uint8(3) {
			day := d.roll(0, 25)
			after := v.Bound
			if style == volume.Anchored {
				after = day
			}
			early, _ := split(l, after)
			for _, anchor := range anchorsOf(v, l) {
				text, is := cite(t, v, early, anchor, style, day)
				if !is {
					continue
				}
				cited[style]++
				holdResolve(t, v, early, text, anchor, after)
				holdResolve(t, v, l, text, anchor, after)
				if len(l) > len(early) {
					more++
				}
			}
		}
	}
	if slices.Min(cited[:]) < 2000 || more < 2000 {
		t.Errorf("%v are cited, %d with later errata", cited, more)
	}
}

// P10.8: each paragraph of the print has citations of all styles, and each that is
// found has one by its anchor.
func TestP10_8AllAreCited(t *testing.T) {
	d := dice(88)
	gone := 0
	for range 800 {
		v := d.volume(8, 40)
		l := d.errata(v, 10, 25, 40)
		inPrint := map[int]bool{}
		for _, p := range printOf(t, v, l) {
			inPrint[p.Anchor] = true
		}
		for _, anchor := range anchorsOf(v, l) {
			_, column := cite(t, v, l, anchor, volume.Column, 0)
			_, numbered := cite(t, v, l, anchor, volume.Numbered, 0)
			if column != inPrint[anchor] || numbered != inPrint[anchor] {
				t.Fatalf("Cite of %v, %v, %d: %v, %v", v, l, anchor, column, numbered)
			}
			_, anchored := cite(t, v, l, anchor, volume.Anchored, 25)
			s, found := find(t, v, l, anchor, 25)
			if anchored != found {
				t.Fatalf("Cite of %v, %v, %d: %v", v, l, anchor, anchored)
			}
			if s.removed {
				gone++
			}
		}
	}
	if gone < 300 {
		t.Errorf("%d are removed", gone)
	}
}

// partsOf returns of each anchor the index of its part, also of those that are added.
func partsOf(v volume.Volume, l []volume.Erratum) map[int]int {
	parts := map[int]int{}
	for i, p := range v.Parts {
		for _, x := range p.Paragraphs {
			parts[x.Anchor] = i
		}
	}
	for _, x := range upTo(l, api.MaxCalendar) {
		if x.Kind == volume.Add {
			parts[x.New] = parts[x.Anchor]
		}
	}
	return parts
}

// P10.9: each line of the print is in just one paragraph, and each part begins with
// the first line of a column; columns are full but for the last one of a part, and
// follow each other from 1 on.
func TestP10_9EachLine(t *testing.T) {
	d := dice(9)
	begun, full := 0, map[bool]int{} // by whether the column ahead of a new part is full
	for range 3000 {
		v := d.volume(10, 40)
		l := d.errata(v, 8, 25, 40)
		parts := partsOf(v, l)
		owner := map[[2]int]int{} // by column and line
		last, column, line := -1, 0, v.Height
		for _, p := range printOf(t, v, l) {
			s, _ := find(t, v, l, p.Anchor, v.Bound)
			if s.removed || p.Lines < 1 || p.Lines*v.Width < len(s.Text) || (p.Lines-1)*v.Width >= len(s.Text) {
				t.Fatalf("Print of %v, %v: %v, of %v", v, l, p, s)
			}
			if parts[p.Anchor] != last { // a new part
				if p.Line != 1 {
					t.Fatalf("Print of %v, %v: %v begins a part", v, l, p)
				}
				if last >= 0 {
					full[line == v.Height]++
				}
				last, line = parts[p.Anchor], v.Height
				begun++
			}
			for i := range p.Lines {
				if line == v.Height {
					column, line = column+1, 0
				}
				line++
				if i == 0 && (p.Column != column || p.Line != line) {
					t.Fatalf("Print of %v, %v: %v, but the next line is %d, %d", v, l, p, column, line)
				}
				if other, has := owner[[2]int{column, line}]; has {
					t.Fatalf("Print of %v, %v: %d and %d are both on %d, %d", v, l, other, p.Anchor, column, line)
				}
				owner[[2]int{column, line}] = p.Anchor
			}
		}
		holdLines(t, v, l, owner, column)
	}
	if begun < 5000 || min(full[true], full[false]) < 500 {
		t.Errorf("%d parts begin, %v behind a full column", begun, full)
	}
}

// holdLines holds that each line leads to its paragraph, and that there are no others.
func holdLines(t *testing.T, v volume.Volume, l []volume.Erratum, owner map[[2]int]int, columns int) {
	t.Helper()
	for column := range columns + 2 {
		for line := range v.Height + 2 {
			x := printed{column: column, line: line}
			if anchor, has := owner[[2]int{column, line}]; has {
				holdResolve(t, v, l, x.citedAs(v, volume.Column), anchor, v.Bound)
			} else {
				holdNoResolve(t, v, l, x.citedAs(v, volume.Column), api.ErrNone)
			}
		}
	}
}

// P10.10: an anchor that is found after a day is found after each later one; what is
// removed stays so, and says the same.
func TestP10_10LinksNeverDie(t *testing.T) {
	d := dice(10)
	links, gone, later := 0, 0, 0
	for range 1500 {
		v := d.volume(6, 40)
		l := d.errata(v, 12, 12, 40)
		for _, anchor := range anchorsOf(v, l) {
			before, was := find(t, v, l, anchor, 0)
			for day := 1; day <= 13; day++ {
				s, is := find(t, v, l, anchor, day)
				if was && !is || before.removed && s != before {
					t.Fatalf("Find of %v, %v, %d, %d: %v, %v; on the day before: %v", v, l, anchor, day, s, is, before)
				}
				if before.removed {
					gone++
				}
				if is && !was {
					later++
				}
				before, was = s, is
			}
			if was {
				links++
			}
		}
		for anchor := range partsOf(v, l) {
			if _, is := find(t, v, l, anchor, api.MaxCalendar); !is {
				t.Fatalf("Find of %v, %v, %d: nothing", v, l, anchor)
			}
		}
	}
	if links < 4000 || gone < 4000 || later < 1000 {
		t.Errorf("%d are found, %d times removed, %d added", links, gone, later)
	}
}

// P10.11: what is read is what is found, and what is found and not removed is read,
// once.
func TestP10_11SameWords(t *testing.T) {
	d := dice(11)
	words, gone := 0, 0
	for range 2000 {
		v := d.volume(8, 40)
		l := d.errata(v, 10, 25, 40)
		day := d.roll(0, 26)
		list := read(t, v, l, day)
		for _, p := range list {
			if s, found := find(t, v, l, p.Anchor, day); s != (said{p, false}) || !found {
				t.Fatalf("Read of %v, %v, %d has %v, but Find %v, %v", v, l, day, p, s, found)
			}
			words++
		}
		for _, anchor := range anchorsOf(v, l) {
			s, found := find(t, v, l, anchor, day)
			times := 0
			for _, p := range list {
				if p.Anchor == anchor {
					times++
				}
			}
			want := 0
			switch {
			case found && !s.removed:
				want = 1
			case found:
				gone++
			}
			if times != want {
				t.Fatalf("Read of %v, %v, %d has %d %d times, but Find %v, %v", v, l, day, anchor, times, s, found)
			}
		}
	}
	if words < 7000 || gone < 500 {
		t.Errorf("%d are read, %d removed", words, gone)
	}
}

// P10.12: no two paragraphs of a print have the same citation, in whatever style.
func TestP10_12Apart(t *testing.T) {
	d := dice(12)
	cited := 0
	for range 1500 {
		v := d.volume(10, 40)
		l := d.errata(v, 10, 25, 40)
		owner := map[string]int{}
		for _, p := range printOf(t, v, l) {
			for style := range uint8(3) {
				text, is := cite(t, v, l, p.Anchor, style, v.Bound)
				if other, has := owner[text]; has || !is {
					t.Fatalf("Cite of %v, %v, %d, %d: %q, which is that of %d", v, l, p.Anchor, style, text, other)
				}
				owner[text] = p.Anchor
				cited++
			}
		}
	}
	if cited < 15000 {
		t.Errorf("%d are cited", cited)
	}
}

// styleOf returns the style of a text that Resolve accepts.
func styleOf(text string) uint8 {
	switch {
	case strings.Contains(text, "@"):
		return volume.Anchored
	case strings.Contains(text, "par."):
		return volume.Numbered
	}
	return volume.Column
}

// P10.12: whatever text Resolve accepts, Cite makes again, byte for byte; of the style
// Column that of the first line.
func TestP10_12ByteForByte(t *testing.T) {
	d := dice(112)
	accepted, other := [3]int{}, 0
	for range 4000 {
		v := d.volume(6, 40)
		l := d.errata(v, 6, 25, 40)
		for range 20 {
			text := d.citation(v)
			anchor, day, e := volume.Resolve(v, l, text)
			if e != api.OK {
				holdNoResolve(t, v, l, text, e)
				continue
			}
			style := styleOf(text)
			accepted[style]++
			again, _ := cite(t, v, l, anchor, style, day)
			if again == text {
				continue
			}
			other++
			if style != volume.Column {
				t.Fatalf("Resolve of %v, %v, %q: %d, %d; but it is cited as %q", v, l, text, anchor, day, again)
			}
			holdResolve(t, v, l, again, anchor, day)
			if !slices.ContainsFunc(printOf(t, v, l), func(p volume.Place) bool {
				return p.Anchor == anchor && p.Lines > 1 && again == printed{column: p.Column, line: p.Line}.citedAs(v, volume.Column)
			}) {
				t.Fatalf("Resolve of %v, %v, %q: %d, %d; but it is cited as %q", v, l, text, anchor, day, again)
			}
		}
	}
	if slices.Min(accepted[:]) < 1000 || other < 300 {
		t.Errorf("%v are accepted, %d cited by another line", accepted, other)
	}
}

// citation throws a text that may be a citation of the volume, or nearly one.
func (d *dice) citation(v volume.Volume) string {
	days := []int{v.Bound, d.roll(0, 25)}
	for _, p := range v.Parts {
		days = append(days, p.Day, p.Day)
	}
	anchors := append(ownAnchors(v), 41, 42, d.roll(0, 50))
	day := days[d.roll(0, len(days)-1)]
	text := numeral(anchors[d.roll(0, len(anchors)-1)]) + "@" + numeral(day)
	switch d.roll(0, 2) {
	case 0:
		text = printed{column: d.roll(1, 8), line: d.roll(1, v.Height)}.citedAs(v, volume.Column)
	case 1:
		text = printed{day: day, number: d.roll(1, 3)}.citedAs(v, volume.Numbered)
	}
	if d.one(4) {
		return text
	}
	// A byte more, less, or another one, where it does not always harm.
	i := d.roll(0, len(text)-1)
	switch d.roll(0, 3) {
	case 0:
		return text[:i] + "0" + text[i:]
	case 1:
		return text[:i] + text[i+1:]
	case 2:
		return text[:i] + string([]byte{byte(d.roll('0', '9'))}) + text[i+1:]
	}
	return text
}

// P10.12: numbers with zeros in front, or signs, or blanks around them, are never
// accepted, so that a citation has one text.
func TestP10_12OneText(t *testing.T) {
	for _, x := range []struct{ before, number, behind string }{
		{"", "11", "@60"}, {"11@", "60", ""}, {"11@", "0", ""},
		{"vol. ", "3", ", col. 1, l. 1"}, {"vol. 3, col. ", "1", ", l. 1"}, {"vol. 3, col. 1, l. ", "1", ""},
		{"vol. ", "3", ", 40, par. 1"}, {"vol. 3, ", "40", ", par. 1"}, {"vol. 3, 40, par. ", "1", ""},
	} {
		anchor, day, e := volume.Resolve(third(), amends(), x.before+x.number+x.behind)
		if e != api.OK {
			t.Fatalf("Resolve of %v: %v", x, e)
		}
		if text, _ := cite(t, third(), amends(), anchor, styleOf(x.before+x.behind), day); text != x.before+x.number+x.behind {
			t.Fatalf("Cite of what %v leads to: %q", x, text)
		}
		for _, other := range []string{"0" + x.number, "00" + x.number, "+" + x.number, "-" + x.number, " " + x.number, x.number + " ", x.number + ".0", x.number + ".", "0x" + x.number, x.number + "\x00", "\t" + x.number, ""} {
			holdNoResolve(t, third(), amends(), x.before+other+x.behind, api.ErrForm)
		}
	}
	for _, day := range []int{math.MinInt, -1, 100000, math.MaxInt} {
		holdNoCite(t, third(), amends(), 11, volume.Anchored, day, api.ErrRange)
	}
}

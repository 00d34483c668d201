package volume_test

import (
	"math"
	"slices"
	"strings"
	"testing"

	"palantype/api"
	"palantype/volume"
)

// holdNothing holds that all calls with the volume and the errata return the error,
// and nothing else, whatever else they are given.
func holdNothing(t *testing.T, v volume.Volume, l []volume.Erratum, want api.Errno) {
	t.Helper()
	if list, e := volume.Print(v, l); len(list) != 0 || e != want {
		t.Fatalf("Print of %v, %v: %v, %v, not %v", v, l, list, e, want)
	}
	for _, day := range []int{0, 45, 60, -1, api.MaxCalendar + 1} {
		if list, e := volume.Read(v, l, day); len(list) != 0 || e != want {
			t.Fatalf("Read of %v, %v, %d: %v, %v, not %v", v, l, day, list, e, want)
		}
		for _, anchor := range []int{11, 12, 0, 999} {
			if text, removed, e := volume.Find(v, l, anchor, day); text != "" || removed || e != want {
				t.Fatalf("Find of %v, %v, %d, %d: %v, %v, %v, not %v", v, l, anchor, day, text, removed, e, want)
			}
			for style := range uint8(4) {
				if text, e := volume.Cite(v, l, anchor, style, day); text != "" || e != want {
					t.Fatalf("Cite of %v, %v, %d, %d, %d: %v, %v, not %v", v, l, anchor, style, day, text, e, want)
				}
			}
		}
	}
	for _, cite := range []string{"vol. 3, col. 1, l. 1", "vol. 3, 40, par. 1", "11@40", "11@100000", "", "x"} {
		if anchor, day, e := volume.Resolve(v, l, cite); anchor != 0 || day != 0 || e != want {
			t.Fatalf("Resolve of %v, %v, %s: %v, %v, %v, not %v", v, l, cite, anchor, day, e, want)
		}
	}
}

// holdFault holds that CheckVolume returns the error of the volume, or OK; and all
// other calls the same one, whatever the errata are.
func holdFault(t *testing.T, v volume.Volume, want api.Errno) {
	t.Helper()
	if e := volume.CheckVolume(v); e != want {
		t.Fatalf("CheckVolume of %v: %v, not %v", v, e, want)
	}
	if e := faultOf(v); e != want {
		t.Fatalf("the test has %v for %v, not %v", e, v, want)
	}
	if want == api.OK {
		holdAll(t, v, nil)
		return
	}
	for _, l := range [][]volume.Erratum{nil, amends(), {remove(0, -1, 0)}, make([]volume.Erratum, api.MaxErrata+1)} {
		holdNothing(t, v, l, want)
	}
}

// holdErrata holds that the errata of a valid volume have this error, or none.
func holdErrata(t *testing.T, v volume.Volume, want api.Errno, l ...volume.Erratum) {
	t.Helper()
	if e := faultOfErrata(v, l); e != want {
		t.Fatalf("the test has %v for %v, %v, not %v", e, v, l, want)
	}
	if want == api.OK {
		holdAll(t, v, l)
		return
	}
	holdNothing(t, v, l, want)
}

// changed returns the volume of the examples with a change.
func changed(change func(v *volume.Volume)) volume.Volume {
	v := third()
	change(&v)
	return v
}

// many returns a part with so many paragraphs, with anchors from the first one on.
func many(day, first, count int) volume.Part {
	p := part(day)
	for i := range count {
		p.Paragraphs = append(p.Paragraphs, says(first+i, "x"))
	}
	return p
}

// P10.1: volumes that are valid, up to all limits.
func TestP10_1CheckVolume(t *testing.T) {
	long := strings.Repeat("x", 200)
	for _, v := range []volume.Volume{
		third(),
		bound(1, 0, 1, 10),
		bound(99, 99999, 60, 80),
		bound(1, 0, 1, 10, part(0)),
		bound(1, 0, 1, 10, part(0, says(1, "x"))),
		bound(1, 99999, 1, 10, part(99999, says(999, "x"))),
		bound(1, 5, 1, 10, part(0), part(1), part(2), part(3), part(4), part(5)),
		bound(1, 5, 1, 10, part(5, says(1, " "), says(2, "~"), says(3, long))),
		bound(1, 50, 1, 10, many(50, 1, 30)),
		bound(1, 50, 60, 80, many(10, 970, 15), part(11), many(20, 1, 15)),
		bound(99, 99999, 60, 80, many(0, 1, 5), many(1, 101, 5), many(2, 201, 5), many(3, 301, 5), many(4, 401, 5), many(99999, 995, 5)),
	} {
		holdFault(t, v, api.OK)
	}
}

// P10.1: each number at its bounds, and behind them.
func TestP10_1CheckVolumeNumbers(t *testing.T) {
	for _, x := range []struct {
		lo, hi int
		set    func(v *volume.Volume, n int)
	}{
		{1, 99, func(v *volume.Volume, n int) { v.Number = n }},
		{44, 99999, func(v *volume.Volume, n int) { v.Bound = n }},
		{1, 60, func(v *volume.Volume, n int) { v.Height = n }},
		{10, 80, func(v *volume.Volume, n int) { v.Width = n }},
		{0, 43, func(v *volume.Volume, n int) { v.Parts[0].Day = n }},
		{41, 50, func(v *volume.Volume, n int) { v.Parts[1].Day = n }},
		{0, 50, func(v *volume.Volume, n int) { v.Parts = v.Parts[:1]; v.Parts[0].Day = n }},
		{0, 99999, func(v *volume.Volume, n int) { v.Parts = nil; v.Bound = n }},
		{13, 999, func(v *volume.Volume, n int) { v.Parts[1].Paragraphs[0].Anchor = n }},
		{1, 10, func(v *volume.Volume, n int) { v.Parts[1].Paragraphs[0].Anchor = n }},
	} {
		for _, n := range []int{math.MinInt, -1 << 32, x.lo, x.lo + 1, x.hi - 1, x.hi, 1 << 32, math.MaxInt} {
			want := api.OK
			if n < x.lo || n > x.hi {
				want = api.ErrArg
			}
			holdFault(t, changed(func(v *volume.Volume) { x.set(v, n) }), want)
		}
	}
	for _, x := range []struct {
		lo, hi int
		set    func(v *volume.Volume, n int)
	}{
		{1, 99, func(v *volume.Volume, n int) { v.Number = n }},
		{44, 99999, func(v *volume.Volume, n int) { v.Bound = n }},
		{1, 60, func(v *volume.Volume, n int) { v.Height = n }},
		{10, 80, func(v *volume.Volume, n int) { v.Width = n }},
		{0, 43, func(v *volume.Volume, n int) { v.Parts[0].Day = n }},
		{41, 50, func(v *volume.Volume, n int) { v.Parts[1].Day = n }},
		{1, 999, func(v *volume.Volume, n int) { v.Parts = v.Parts[1:]; v.Parts[0].Paragraphs[0].Anchor = n }},
	} {
		for _, n := range []int{x.lo - 1, x.hi + 1} {
			holdFault(t, changed(func(v *volume.Volume) { x.set(v, n) }), api.ErrArg)
		}
	}
}

// P10.1: texts of paragraphs.
func TestP10_1CheckVolumeTexts(t *testing.T) {
	for length := range 203 {
		want := api.OK
		if length < 1 || length > 200 {
			want = api.ErrArg
		}
		holdFault(t, changed(func(v *volume.Volume) { v.Parts[1].Paragraphs[0].Text = strings.Repeat("x", length) }), want)
	}
	for b := range 256 {
		want := api.OK
		if b < 32 || b > 126 {
			want = api.ErrArg
		}
		for _, text := range []string{"", "a", "ab"} {
			holdFault(t, changed(func(v *volume.Volume) { v.Parts[0].Paragraphs[1].Text = text + string([]byte{byte(b)}) + text }), want)
		}
	}
}

// P10.1: volumes that are refused otherwise.
func TestP10_1CheckVolumeRefused(t *testing.T) {
	for _, x := range []struct {
		v    volume.Volume
		want api.Errno
	}{
		{volume.Volume{}, api.ErrArg},
		{bound(1, 6, 1, 10, part(0), part(1), part(2), part(3), part(4), part(5), part(6)), api.ErrLimit},
		{bound(1, 50, 1, 10, many(50, 1, 31)), api.ErrLimit},
		{bound(1, 50, 1, 10, many(10, 1, 15), part(11), many(20, 101, 16)), api.ErrLimit},
		{bound(1, 50, 1, 10, many(10, 1, 30), many(20, 101, 1)), api.ErrLimit},
		{bound(1, 50, 1, 10, many(10, 1, 400)), api.ErrLimit},
		{bound(1, 50, 1, 10, make([]volume.Part, 1000)...), api.ErrLimit},
		// Days of parts.
		{bound(1, 50, 1, 10, part(40), part(40)), api.ErrArg},
		{bound(1, 50, 1, 10, part(40), part(39)), api.ErrArg},
		{bound(1, 50, 1, 10, part(1), part(3), part(2)), api.ErrArg},
		{bound(1, 50, 1, 10, part(1), part(2), part(1)), api.ErrArg},
		{bound(1, 50, 1, 10, part(1), part(51)), api.ErrArg},
		{bound(1, 0, 1, 10, part(1)), api.ErrArg},
		{bound(1, 50, 1, 10, part(-1), part(1)), api.ErrArg},
		{bound(1, 99999, 1, 10, part(1), part(100000)), api.ErrArg},
		{bound(1, 100000, 1, 10, part(1), part(100000)), api.ErrArg},
		// The same anchor, in one part, and in two.
		{bound(1, 50, 1, 10, part(1, says(7, "a"), says(7, "a"))), api.ErrTwice},
		{bound(1, 50, 1, 10, part(1, says(7, "a"), says(6, "a"), says(7, "b"))), api.ErrTwice},
		{bound(1, 50, 1, 10, part(1, says(7, "a"), says(6, "a")), part(2), part(3, says(5, "a"), says(7, "b"))), api.ErrTwice},
		{bound(1, 50, 1, 10, many(1, 10, 15), many(2, 24, 15)), api.ErrTwice},
		// ErrLimit ahead of ErrArg, and that ahead of ErrTwice.
		{bound(0, -1, 0, 0, many(10, 1, 31)), api.ErrLimit},
		{bound(1, 50, 1, 10, many(10, 1, 16), many(9, 1, 15)), api.ErrLimit},
		{bound(1, 50, 1, 10, part(1, says(7, "a"), says(7, ""))), api.ErrArg},
		{bound(1, 50, 1, 10, part(1, says(0, "a"), says(0, "b"))), api.ErrArg},
		{bound(1, 50, 1, 9, part(1, says(7, "a"), says(7, "b"))), api.ErrArg},
		{bound(100, 50, 1, 10, part(1, says(7, "a"), says(7, "b"))), api.ErrArg},
	} {
		holdFault(t, x.v, x.want)
	}
}

// P10.2: errata that a volume may have, up to all limits.
func TestP10_2Errata(t *testing.T) {
	var chain, changes []volume.Erratum
	for i := range api.MaxErrata {
		chain = append(chain, add(i+1, 0, max(11, 99+i), 100+i, "x"))
		changes = append(changes, change(980+i, 99999, 11, strings.Repeat("~", 200)))
	}
	chain[0].Anchor = 11
	for _, l := range [][]volume.Erratum{
		nil,
		amends(),
		{change(1, 0, 11, " ")},
		{change(999, 99999, 15, "x")},
		{remove(1, 0, 11), remove(999, 99999, 11)},
		{add(1, 0, 11, 1, "x"), add(999, 99999, 15, 999, "x")},
		// What was removed may still be named, and what was added at once.
		{remove(1, 5, 11), change(2, 5, 11, "x"), remove(3, 6, 11), add(4, 7, 11, 20, "y")},
		{add(1, 5, 11, 20, "x"), change(2, 5, 20, "y"), add(3, 5, 20, 21, "z"), remove(4, 5, 21)},
		{add(9, 4, 11, 20, "x"), change(1, 5, 20, "y"), remove(2, 4, 12)},
		chain,
		changes,
	} {
		mixed := slices.Clone(l)
		slices.Reverse(mixed)
		holdErrata(t, third(), api.OK, l...)
		holdErrata(t, third(), api.OK, mixed...)
	}
}

// P10.2: errata that are refused.
func TestP10_2ErrataRefused(t *testing.T) {
	some := func(x volume.Erratum) []volume.Erratum { return append(amends(), x) }
	// kind is an erratum of a kind that there is not.
	kind := func(code uint8, anchor int, text string, fresh int) volume.Erratum {
		return volume.Erratum{Number: 9, Day: 70, Kind: code, Anchor: anchor, Text: text, New: fresh}
	}
	for _, x := range []struct {
		l    []volume.Erratum
		want api.Errno
	}{
		{make([]volume.Erratum, api.MaxErrata+1), api.ErrLimit},
		{make([]volume.Erratum, api.MaxErrata), api.ErrArg},
		{slices.Repeat(amends(), 7), api.ErrLimit},
		{make([]volume.Erratum, 1000), api.ErrLimit},
		// Numbers and days.
		{some(change(0, 70, 12, "x")), api.ErrArg},
		{some(change(-1, 70, 12, "x")), api.ErrArg},
		{some(change(1000, 70, 12, "x")), api.ErrArg},
		{some(change(9, -1, 12, "x")), api.ErrArg},
		{some(change(9, 100000, 12, "x")), api.ErrArg},
		{some(remove(math.MaxInt, 70, 12)), api.ErrArg},
		{some(add(9, math.MinInt, 12, 30, "x")), api.ErrArg},
		// Kinds.
		{some(kind(3, 12, "x", 0)), api.ErrArg},
		{some(kind(3, 12, "", 0)), api.ErrArg},
		{some(kind(255, 12, "x", 30)), api.ErrArg},
		// Texts.
		{some(change(9, 70, 12, "")), api.ErrArg},
		{some(change(9, 70, 12, "a\x1fb")), api.ErrArg},
		{some(change(9, 70, 12, "a\x7f")), api.ErrArg},
		{some(change(9, 70, 12, strings.Repeat("x", 201))), api.ErrArg},
		{some(add(9, 70, 12, 30, "")), api.ErrArg},
		{some(add(9, 70, 12, 30, "é")), api.ErrArg},
		{some(add(9, 70, 12, 30, strings.Repeat("x", 201))), api.ErrArg},
		{some(kind(1, 12, "x", 0)), api.ErrArg},
		{some(kind(1, 12, " ", 0)), api.ErrArg},
		// New.
		{some(kind(0, 12, "x", 30)), api.ErrArg},
		{some(kind(0, 12, "x", -1)), api.ErrArg},
		{some(kind(1, 12, "", 30)), api.ErrArg},
		{some(kind(1, 12, "", 12)), api.ErrArg},
		{some(add(9, 70, 12, 0, "x")), api.ErrArg},
		{some(add(9, 70, 12, -1, "x")), api.ErrArg},
		{some(add(9, 70, 12, 1000, "x")), api.ErrArg},
		// The same number, or a New that there is.
		{some(change(1, 70, 12, "x")), api.ErrTwice},
		{some(amends()[0]), api.ErrTwice},
		{some(add(9, 70, 12, 12, "x")), api.ErrTwice},
		{some(add(9, 70, 12, 15, "x")), api.ErrTwice},
		{some(add(9, 70, 12, 20, "x")), api.ErrTwice},
		{some(add(9, 0, 12, 20, "x")), api.ErrTwice},
		// Anchors that there are not, or not yet, or that no paragraph can have.
		{some(change(9, 70, 13, "x")), api.ErrNone},
		{some(remove(9, 70, 999)), api.ErrNone},
		{some(change(9, 99999, 13, "x")), api.ErrNone},
		{some(remove(9, 0, 13)), api.ErrNone},
		{some(add(9, 70, 30, 30, "x")), api.ErrNone},
		{some(change(9, 59, 20, "x")), api.ErrNone},
		{some(remove(9, 0, 20)), api.ErrNone},
		{[]volume.Erratum{add(3, 60, 11, 20, "x"), change(2, 60, 20, "y")}, api.ErrNone},
		{[]volume.Erratum{add(3, 60, 11, 20, "x"), add(2, 60, 20, 21, "y")}, api.ErrNone},
		{[]volume.Erratum{add(1, 60, 21, 20, "x"), add(2, 60, 20, 21, "y")}, api.ErrNone},
		{some(change(9, 70, 0, "x")), api.ErrNone},
		{some(remove(9, 70, -1)), api.ErrNone},
		{some(add(9, 70, 1000, 30, "x")), api.ErrNone},
		{some(add(9, 70, math.MaxInt, 30, "x")), api.ErrNone},
		{some(remove(9, 70, math.MinInt)), api.ErrNone},
		// ErrLimit ahead of ErrArg, then ErrTwice, then ErrNone, whatever stands first.
		{append([]volume.Erratum{change(5, 70, 12, "")}, slices.Repeat(amends(), 7)...), api.ErrLimit},
		{[]volume.Erratum{change(1, 70, 13, "x"), remove(1, 70, 13), kind(3, 11, "", 0)}, api.ErrArg},
		{[]volume.Erratum{add(1, 70, 13, 11, "x"), add(2, 70, 11, 1000, "x")}, api.ErrArg},
		{[]volume.Erratum{change(1, 70, 13, "x"), remove(2, 70, 11), remove(2, 70, 12)}, api.ErrTwice},
		{[]volume.Erratum{change(1, 70, 13, "x"), add(2, 70, 11, 12, "x")}, api.ErrTwice},
		{[]volume.Erratum{add(1, 70, 20, 20, "x"), add(2, 70, 11, 20, "x")}, api.ErrTwice},
	} {
		mixed := slices.Clone(x.l)
		slices.Reverse(mixed)
		holdErrata(t, third(), x.want, x.l...)
		holdErrata(t, third(), x.want, mixed...)
	}
	// A Change has New 0, which is not the anchor of anything.
	holdErrata(t, third(), api.ErrNone, change(1, 1, 11, "x"), change(2, 2, 0, "y"))
	holdErrata(t, third(), api.ErrNone, remove(1, 1, 11), remove(2, 2, 0))
	// Without paragraphs there is no anchor.
	holdErrata(t, bound(1, 0, 1, 10, part(0)), api.ErrNone, remove(1, 0, 1))
	holdErrata(t, bound(1, 0, 1, 10), api.OK)
}

// P10.2: numbers of errata at their bounds.
func TestP10_2ErrataNumbers(t *testing.T) {
	for _, x := range []struct {
		lo, hi int
		of     func(n int) volume.Erratum
	}{
		{1, 999, func(n int) volume.Erratum { return change(n, 5, 11, "x") }},
		{1, 999, func(n int) volume.Erratum { return remove(n, 5, 11) }},
		{1, 999, func(n int) volume.Erratum { return add(n, 5, 11, 30, "x") }},
		{0, 99999, func(n int) volume.Erratum { return change(5, n, 11, "x") }},
		{0, 99999, func(n int) volume.Erratum { return remove(5, n, 11) }},
		{0, 99999, func(n int) volume.Erratum { return add(5, n, 11, 30, "x") }},
		{16, 999, func(n int) volume.Erratum { return add(5, 5, 11, n, "x") }},
		{1, 10, func(n int) volume.Erratum { return add(5, 5, 11, n, "x") }},
	} {
		for _, n := range []int{x.lo, x.lo + 1, x.hi - 1, x.hi} {
			holdErrata(t, third(), api.OK, x.of(n))
		}
	}
	for kind := range 256 {
		x := volume.Erratum{Number: 1, Day: 1, Kind: uint8(kind), Anchor: 11, Text: "x"}
		want := api.ErrArg
		if kind == 0 {
			want = api.OK
		}
		holdErrata(t, third(), want, x)
	}
}

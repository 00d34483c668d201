package volume_test

import (
	"math"
	"slices"
	"strings"
	"testing"

	"palantype/api"
	"palantype/volume"
)

// holdCite holds that Cite returns the text.
func holdCite(t *testing.T, v volume.Volume, l []volume.Erratum, anchor int, style uint8, day int, want string) {
	t.Helper()
	if text, e := volume.Cite(v, l, anchor, style, day); text != want || e != api.OK {
		t.Fatalf("Cite of %v, %v, %d, %d, %d: %q, %v, not %q", v, l, anchor, style, day, text, e, want)
	}
}

// holdNoCite holds that Cite returns the error, and nothing else.
func holdNoCite(t *testing.T, v volume.Volume, l []volume.Erratum, anchor int, style uint8, day int, want api.Errno) {
	t.Helper()
	if text, e := volume.Cite(v, l, anchor, style, day); text != "" || e != want {
		t.Fatalf("Cite of %v, %v, %d, %d, %d: %q, %v, not %v", v, l, anchor, style, day, text, e, want)
	}
}

// holdResolve holds that Resolve returns the anchor and the day.
func holdResolve(t *testing.T, v volume.Volume, l []volume.Erratum, cite string, anchor, day int) {
	t.Helper()
	if a, d, e := volume.Resolve(v, l, cite); a != anchor || d != day || e != api.OK {
		t.Fatalf("Resolve of %v, %v, %q: %v, %v, %v, not %v, %v", v, l, cite, a, d, e, anchor, day)
	}
}

// holdNoResolve holds that Resolve returns the error, and nothing else.
func holdNoResolve(t *testing.T, v volume.Volume, l []volume.Erratum, cite string, want api.Errno) {
	t.Helper()
	if a, d, e := volume.Resolve(v, l, cite); a != 0 || d != 0 || e != want {
		t.Fatalf("Resolve of %v, %v, %q: %v, %v, %v, not %v", v, l, cite, a, d, e, want)
	}
}

// holdResolved holds Resolve of the text against what the chapter defines.
func holdResolved(t *testing.T, v volume.Volume, l []volume.Erratum, cite string) api.Errno {
	t.Helper()
	anchor, day, e := resolveOf(v, l, cite)
	if e == api.OK {
		holdResolve(t, v, l, cite, anchor, day)
	} else {
		holdNoResolve(t, v, l, cite, e)
	}
	return e
}

// holdCited holds the citations of all paragraphs in the style, after the day,
// against what the chapter defines, and what they lead to.
func holdCited(t *testing.T, v volume.Volume, l []volume.Erratum, style uint8, day int) {
	t.Helper()
	for _, anchor := range anchorsOf(v, l) {
		text, e := citeOf(v, l, anchor, style, day)
		if e != api.OK {
			holdNoCite(t, v, l, anchor, style, day, e)
			continue
		}
		holdCite(t, v, l, anchor, style, day, text)
		holdResolved(t, v, l, text)
	}
}

// P10.5: the examples of the chapter.
func TestP10_5CiteExamples(t *testing.T) {
	for day := range 70 {
		holdCite(t, third(), amends(), 12, volume.Column, day, "vol. 3, col. 2, l. 1")
		holdCite(t, third(), amends(), 12, volume.Numbered, day, "vol. 3, 40, par. 2")
	}
	holdCite(t, third(), amends(), 12, volume.Anchored, 44, "12@44")
	holdResolve(t, third(), amends(), "vol. 3, col. 1, l. 3", 11, 50)
}

// P10.5: what the styles need: the print has a paragraph or not, and the day counts
// for Anchored alone.
func TestP10_5Cite(t *testing.T) {
	for _, day := range []int{math.MinInt, -1, 0, 59, 60, 99999, 100000, math.MaxInt} {
		holdCite(t, third(), amends(), 11, volume.Column, day, "vol. 3, col. 1, l. 1")
		holdCite(t, third(), amends(), 15, volume.Column, day, "vol. 3, col. 3, l. 1")
		holdCite(t, third(), amends(), 11, volume.Numbered, day, "vol. 3, 40, par. 1")
		holdCite(t, third(), amends(), 15, volume.Numbered, day, "vol. 3, 44, par. 1")
		for _, anchor := range []int{math.MinInt, 0, 20, 13, 1000} { // 20 is issued behind Bound
			holdNoCite(t, third(), amends(), anchor, volume.Column, day, api.ErrNone)
			holdNoCite(t, third(), amends(), anchor, volume.Numbered, day, api.ErrNone)
		}
		for style := 3; style < 256; style++ {
			holdNoCite(t, third(), amends(), 11, uint8(style), day, api.ErrRange)
			holdNoCite(t, third(), amends(), 13, uint8(style), day, api.ErrRange)
		}
	}
	for _, day := range []int{math.MinInt, -1, 100000, math.MaxInt} {
		holdNoCite(t, third(), amends(), 11, volume.Anchored, day, api.ErrRange)
		holdNoCite(t, third(), amends(), 13, volume.Anchored, day, api.ErrRange)
	}
	holdCite(t, third(), amends(), 11, volume.Anchored, 0, "11@0")
	holdCite(t, third(), amends(), 11, volume.Anchored, 60, "11@60") // removed
	holdCite(t, third(), amends(), 11, volume.Anchored, 99999, "11@99999")
	holdCite(t, third(), amends(), 20, volume.Anchored, 60, "20@60")
	holdNoCite(t, third(), amends(), 20, volume.Anchored, 59, api.ErrNone)
	for _, anchor := range []int{math.MinInt, -11, 0, 13, 1000, math.MaxInt} {
		holdNoCite(t, third(), amends(), anchor, volume.Anchored, 60, api.ErrNone)
	}
}

// P10.5: numbers of one digit and of many, and of what is removed, or added, ahead of
// the day Bound.
func TestP10_5CiteNumbers(t *testing.T) {
	v := bound(99, 99999, 1, 10, part(0, says(1, "a"), says(999, strings.Repeat("b", 95))), part(99999, says(10, "c"), says(100, "d")))
	holdCite(t, v, nil, 1, volume.Column, 0, "vol. 99, col. 1, l. 1")
	holdCite(t, v, nil, 999, volume.Column, 0, "vol. 99, col. 2, l. 1")
	holdCite(t, v, nil, 10, volume.Column, 0, "vol. 99, col. 12, l. 1")
	holdCite(t, v, nil, 100, volume.Numbered, 0, "vol. 99, 99999, par. 2")
	holdCite(t, v, nil, 999, volume.Numbered, 0, "vol. 99, 0, par. 2")
	holdCite(t, v, nil, 999, volume.Anchored, 99999, "999@99999")
	holdCite(t, v, nil, 1, volume.Anchored, 0, "1@0")
	l := []volume.Erratum{remove(1, 99999, 1), add(2, 99999, 10, 20, "e")}
	holdCite(t, v, l, 999, volume.Column, 0, "vol. 99, col. 1, l. 1")
	holdCite(t, v, l, 999, volume.Numbered, 0, "vol. 99, 0, par. 1")
	holdCite(t, v, l, 20, volume.Numbered, 0, "vol. 99, 99999, par. 2")
	holdCite(t, v, l, 100, volume.Numbered, 0, "vol. 99, 99999, par. 3")
	holdNoCite(t, v, l, 1, volume.Column, 0, api.ErrNone)
	holdNoCite(t, v, l, 1, volume.Numbered, 0, api.ErrNone)
	holdCite(t, v, l, 1, volume.Anchored, 99999, "1@99999")
	many := bound(1, 9, 60, 10, many(9, 100, 30))
	holdCite(t, many, nil, 129, volume.Numbered, 0, "vol. 1, 9, par. 30")
	holdCite(t, many, nil, 129, volume.Column, 0, "vol. 1, col. 1, l. 30")
}

// P10.5: what there is in the volume, and what there is not.
func TestP10_5Resolve(t *testing.T) {
	for _, x := range []struct {
		cite        string
		anchor, day int
	}{
		{"vol. 3, col. 1, l. 1", 11, 50}, {"vol. 3, col. 1, l. 2", 11, 50}, {"vol. 3, col. 1, l. 3", 11, 50},
		{"vol. 3, col. 2, l. 1", 12, 50}, {"vol. 3, col. 2, l. 2", 12, 50},
		{"vol. 3, col. 3, l. 1", 15, 50}, {"vol. 3, col. 3, l. 2", 15, 50},
		{"vol. 3, 40, par. 1", 11, 50}, {"vol. 3, 40, par. 2", 12, 50}, {"vol. 3, 44, par. 1", 15, 50},
		{"11@0", 11, 0}, {"11@60", 11, 60}, {"11@99999", 11, 99999}, {"12@45", 12, 45}, {"20@60", 20, 60}, {"15@1", 15, 1},
	} {
		holdResolve(t, third(), amends(), x.cite, x.anchor, x.day)
	}
	for _, cite := range []string{
		// Another volume.
		"vol. 2, col. 1, l. 1", "vol. 0, col. 1, l. 1", "vol. 33, col. 1, l. 1", "vol. 999999, col. 1, l. 1", "vol. 4, 40, par. 1", "vol. 0, 40, par. 1", "vol. 999999, 44, par. 1",
		// No such column or line.
		"vol. 3, col. 0, l. 1", "vol. 3, col. 4, l. 1", "vol. 3, col. 999999, l. 1", "vol. 3, col. 1, l. 0", "vol. 3, col. 1, l. 4", "vol. 3, col. 2, l. 3", "vol. 3, col. 3, l. 3", "vol. 3, col. 1, l. 999999",
		// No such part or paragraph.
		"vol. 3, 0, par. 1", "vol. 3, 41, par. 1", "vol. 3, 50, par. 1", "vol. 3, 99999, par. 1", "vol. 3, 40, par. 0", "vol. 3, 40, par. 3", "vol. 3, 44, par. 2", "vol. 3, 44, par. 999999",
		// No such anchor, or not yet.
		"0@0", "13@60", "20@59", "20@0", "999@60", "1000@60", "999999@60", "50@11",
	} {
		holdNoResolve(t, third(), amends(), cite, api.ErrNone)
	}
	empty := bound(3, 50, 3, 10, part(40))
	for _, cite := range []string{"vol. 3, col. 1, l. 1", "vol. 3, col. 0, l. 0", "vol. 3, 40, par. 1", "vol. 3, 40, par. 0", "11@50", "0@0"} {
		holdNoResolve(t, empty, nil, cite, api.ErrNone)
	}
}

// P10.5: texts that are none of the three.
func TestP10_5ResolveForm(t *testing.T) {
	for _, cite := range []string{
		"", " ", "x", "3", "@", "vol.", "vol. ", "vol. 3", "vol. 3, ", "vol. 3, col. 1", "vol. 3, col. 1, ", "vol. 3, col. 1, l. ", "vol. 3, col. , l. 1", "vol. , col. 1, l. 1",
		"vol. 3, 40", "vol. 3, 40, par.", "vol. 3, 40, par. ", "vol. 3, , par. 1", "11@", "@11", "11", "11@@5", "11@5@5", "11 @5", "11@ 5",
		// Bytes that are others, or too many, or too few.
		"Vol. 3, col. 1, l. 1", "vol 3, col. 1, l. 1", "vol.3, col. 1, l. 1", "vol.  3, col. 1, l. 1", "vol. 3,col. 1, l. 1", "vol. 3; col. 1, l. 1", "vol. 3, col 1, l. 1", "vol. 3, col. 1, L. 1", "vol. 3, col. 1, l 1", "vol. 3, col. 1, l. 1.", "vol. 3, col. 1, l. 1 ", "vol. 3, col. 1, l. 1\n", " vol. 3, col. 1, l. 1", "vol. V, col. C, l. L",
		"vol. 3, 40, par 1", "vol. 3, 40, par. 1,", "vol. 3, 40, par. 1\x00", "vol. 3, 40, l. 1", "vol. 3, col. 40, par. 1", "vol. V, D, par. N", "A@D", "11@60 ", " 11@60", "11@60\n", "11\xff60", "11＠60", "vol. 3, 40, par. 1vol. 3, 40, par. 1", "11@6011@60",
		// Zeros in front, signs, and what is no decimal digit.
		"vol. 03, col. 1, l. 1", "vol. 3, col. 01, l. 1", "vol. 3, col. 1, l. 01", "vol. 3, col. 1, l. 00", "vol. +3, col. 1, l. 1", "vol. 3, col. -1, l. 1", "vol. 3, col. 1, l. -0", "vol. 3, col. 1, l. 1e0", "vol. 3, col. 1, l. 0x1", "vol. 3, col. 1, l. 1_0", "vol. 3, col. 1, l. ١",
		"vol. 03, 40, par. 1", "vol. 3, 040, par. 1", "vol. 3, 40, par. 01", "vol. 3, -40, par. 1", "vol. 3, +40, par. 1", "vol. 3, 40, par. +1", "011@60", "11@060", "00@60", "11@00", "-11@60", "+11@60", "11@-60", "11@+60", "11@6o",
		// Days above MaxCalendar, and other numbers above 999999.
		"vol. 3, 100000, par. 1", "vol. 3, 999999, par. 1", "11@100000", "11@999999", "1000000@60", "vol. 1000000, col. 1, l. 1", "vol. 3, col. 1000000, l. 1", "vol. 3, col. 1, l. 1000000", "vol. 1000000, 40, par. 1", "vol. 3, 40, par. 1000000",
		"9223372036854775807@60", "9223372036854775808@60", "18446744073709551627@60", "11@18446744073709551676", "vol. 3, 18446744073709551656, par. 1", "vol. 18446744073709551619, col. 1, l. 1", "4294967307@60",
		strings.Repeat("1", 5000) + "@60", "11@" + strings.Repeat("0", 5000), strings.Repeat("vol. 3, ", 1000), strings.Repeat("9", 100000),
	} {
		holdNoResolve(t, third(), amends(), cite, api.ErrForm)
		if _, _, e := resolveOf(third(), amends(), cite); e != api.ErrForm {
			t.Fatalf("the test has %v for %q", e, cite)
		}
	}
}

// P10.5: all small numbers of all styles.
func TestP10_5ResolveAllSmall(t *testing.T) {
	seen := map[api.Errno]int{}
	v := lined(3, []int{2, 4}, nil, []int{1, 1, 1, 1}, []int{3})
	l := []volume.Erratum{add(1, 20, 7, 8, "x"), remove(2, 20, 4), change(3, 21, 5, strings.Repeat("x", 100)), add(4, 21, 1, 9, "y")}
	holdErrata(t, v, api.OK, l...)
	for a := range 12 {
		for b := range 24 {
			x, y := numeral(a), numeral(b)
			seen[holdResolved(t, v, l, "vol. 1, col. "+x+", l. "+y)]++
			seen[holdResolved(t, v, l, "vol. "+x+", col. 1, l. "+y)]++
			seen[holdResolved(t, v, l, "vol. 1, "+x+", par. "+y)]++
			seen[holdResolved(t, v, l, "vol. "+y+", 2, par. "+x)]++
			seen[holdResolved(t, v, l, x+"@"+y)]++
		}
	}
	if seen[api.OK] < 150 || seen[api.ErrNone] < 500 {
		t.Errorf("%v are seen", seen)
	}
}

// numeral returns the digits of a number from 0 to 99.
func numeral(n int) string {
	if n < 10 {
		return string(rune('0' + n))
	}
	return numeral(n/10) + numeral(n%10)
}

// P10.5: each byte of a citation, left out, doubled, or another one.
func TestP10_5ResolveEachByte(t *testing.T) {
	seen := map[api.Errno]int{}
	for _, cite := range []string{"vol. 3, col. 2, l. 1", "vol. 3, 40, par. 2", "12@44", "11@0", "vol. 3, col. 0, l. 1"} {
		for i := range cite {
			seen[holdResolved(t, third(), amends(), cite[:i])]++
			seen[holdResolved(t, third(), amends(), cite[i+1:])]++
			seen[holdResolved(t, third(), amends(), cite[:i]+cite[i+1:])]++
			for b := range 256 {
				other := string([]byte{byte(b)})
				seen[holdResolved(t, third(), amends(), cite[:i]+other+cite[i+1:])]++
				seen[holdResolved(t, third(), amends(), cite[:i]+other+cite[i:])]++
			}
		}
	}
	if seen[api.OK] < 50 || seen[api.ErrNone] < 200 || seen[api.ErrForm] < 10000 {
		t.Errorf("%v are seen", seen)
	}
}

// P10.5: the numbers of digits that there may be, for each number of each style.
func TestP10_5ResolveDigits(t *testing.T) {
	for _, x := range []struct {
		before, behind string
		digits         int
	}{
		{"vol. ", ", col. 1, l. 1", 6}, {"vol. 3, col. ", ", l. 1", 6}, {"vol. 3, col. 1, l. ", "", 6},
		{"vol. ", ", 40, par. 1", 6}, {"vol. 3, ", ", par. 1", 5}, {"vol. 3, 40, par. ", "", 6},
		{"", "@99", 6}, {"99@", "", 5},
	} {
		for _, digit := range []string{"1", "7", "9"} {
			for count := range 30 {
				want := api.ErrForm
				if count > 0 && count <= x.digits {
					want = api.ErrNone
				}
				// Nothing of these is there, but for 1 to 99999 where it is a day.
				cite := x.before + strings.Repeat(digit, count) + x.behind
				if got := holdResolved(t, third(), nil, cite); got != want && got != api.OK {
					t.Fatalf("Resolve of %q: %v, not %v", cite, got, want)
				}
			}
		}
	}
	l := slices.Concat(amends(), []volume.Erratum{change(9, 99999, 15, "x")})
	holdResolve(t, third(), l, "15@99999", 15, 99999)
	holdNoResolve(t, third(), l, "15@100000", api.ErrForm)
}

package index_test

import (
	"math"
	"slices"
	"strconv"
	"strings"
	"testing"

	"palantype/api"
	"palantype/index"
)

// holdBefore holds that Before says of both texts, in both ways, what comes first: a
// if order is -1, b if it is 1, and neither if it is 0.
func holdBefore(t *testing.T, a, b string, order int) {
	t.Helper()
	if x, y := index.Before(a, b), index.Before(b, a); x != (order < 0) || y != (order > 0) {
		t.Fatalf("Before of %q, %q: %v, and %v, not %d", a, b, x, y, order)
	}
}

// holdNothing holds that all calls with the index return the error, and nothing else,
// whatever else they are given.
func holdNothing(t *testing.T, l []index.Heading, want api.Errno) {
	t.Helper()
	for _, indices := range [][][]index.Heading{years(l), years(first(), l), years(l, second()), years(nil, l, l)} {
		if list, e := index.Join(indices); len(list) != 0 || e != want {
			t.Fatalf("Join of %v: %v, %v, not %v", indices, list, e, want)
		}
	}
	for _, name := range []string{"a", "Trade", "", "zz"} {
		if h, e := index.Lead(l, name); !sameHeading(h, index.Heading{}) || e != want {
			t.Fatalf("Lead of %v, %q: %v, %v, not %v", l, name, h, e, want)
		}
		for _, steps := range []int{0, 1, 60, -1, 61} {
			if list, e := index.Related(l, name, steps); len(list) != 0 || e != want {
				t.Fatalf("Related of %v, %q, %d: %v, %v, not %v", l, name, steps, list, e, want)
			}
		}
	}
	for _, volume := range []int{0, 1, 3, 1000} {
		for _, column := range []int{0, 1, 13, 10000} {
			if list, e := index.Under(l, volume, column); len(list) != 0 || e != want {
				t.Fatalf("Under of %v, %d, %d: %v, %v, not %v", l, volume, column, list, e, want)
			}
		}
	}
	if b, e := index.Write(l); len(b) != 0 || e != want {
		t.Fatalf("Write of %v: %q, %v, not %v", l, b, e, want)
	}
}

// holdFault holds that CheckIndex returns the error of the index, or OK; and all other
// calls the same one.
func holdFault(t *testing.T, want api.Errno, l ...index.Heading) {
	t.Helper()
	if e := index.CheckIndex(l); e != want {
		t.Fatalf("CheckIndex of %v: %v, not %v", l, e, want)
	}
	if e := faultOf(l); e != want {
		t.Fatalf("the test has %v for %v, not %v", e, l, want)
	}
	if want != api.OK {
		holdNothing(t, l, want)
		return
	}
	holdFile(t, l, fileOf(l))
	holdJoin(t, l, l)
}

// numbered returns so many names that rise.
func numbered(text string, count int) []string {
	var l []string
	for i := range count {
		l = append(l, text+strconv.Itoa(100+i))
	}
	return l
}

// apart returns so many places of a column each that rise, in the volume.
func apart(volume, count int) []index.Place {
	var l []index.Place
	for i := range count {
		l = append(l, at(volume, 2*i+1, 2*i+1))
	}
	return l
}

// plain returns headings with these names, and nothing else.
func plain(names ...string) []index.Heading {
	var l []index.Heading
	for _, name := range names {
		l = append(l, heading(name, "", ""))
	}
	return l
}

// P11.1: the examples of the chapter.
func TestP11_1BeforeExamples(t *testing.T) {
	holdBefore(t, "Corn Laws", "Corn laws", -1)
	holdBefore(t, "Corn laws", "CornLawz", -1)
	holdBefore(t, "Lee Ann", "A Lee", 1)
}

// holdOrder holds Before of both texts against what the chapter defines.
func holdOrder(t *testing.T, a, b string) {
	t.Helper()
	switch {
	case a == b:
		holdBefore(t, a, b, 0)
	case beforeOf(a, b):
		holdBefore(t, a, b, -1)
	default:
		holdBefore(t, a, b, 1)
	}
}

// P11.1: texts in their order: by letters and digits, and then by themselves.
func TestP11_1Before(t *testing.T) {
	sorted := []string{
		"", "\x00", " ", "!", "-", "?", "??", "\u00e9", "\u212a", "\xff", // no letter or digit, not even the sign of kelvin
		"0", "00", "1", "10", "9", "9 1", "9Z", "9z",
		"-A", "A", "A ", "A!", "a", "a ", "a\u00e9", "a-1", "a1", "a 2", "A A", "AA", "a A", "a a", "aA", "aa", "a\xffa",
		"A B", "A-B", "AB", "ab", "B a", "b A", "b-a", "bab", "Z", "z", "[z z]",
	}
	for i, a := range sorted {
		for k, b := range sorted {
			holdBefore(t, a, b, i-k)
		}
	}
	holdBefore(t, "St Albans", "Stairs", 1)
	holdBefore(t, "O'Brien", "OBrien", -1)
	holdBefore(t, "O'Brien", "O'Bryan", -1)
	long := strings.Repeat("a", 100000)
	holdBefore(t, long, long+"-", -1)
	holdBefore(t, long+"b", strings.ToUpper(long)+"a", 1)
}

// P11.1: each byte in a text: it is a letter, a digit, or not in the key.
func TestP11_1BeforeBytes(t *testing.T) {
	for i := range 256 {
		for k := range 256 {
			holdOrder(t, "m"+string([]byte{byte(i)})+"m", "m"+string([]byte{byte(k)})+"m")
		}
	}
}

// P11.1: indices that are valid, up to all limits.
func TestP11_1CheckIndex(t *testing.T) {
	holdFault(t, api.OK)
	for _, l := range [][]index.Heading{first(), second(), joined(), plain("?"), plain("-", "?", "??"), plain("A", "a"), plain("a", "a b", "ab"), plain(numbered("x", 60)...)} {
		holdFault(t, api.OK, l...)
	}
	wide := strings.Repeat("x", 40)
	for _, h := range []index.Heading{
		heading(wide, "", ""),
		heading("a", wide, ""),
		heading("a", strings.Join(numbered("b", 8), "|"), ""),
		heading("b", "A|a|a b|C", ""), // on both sides of the Name
		heading("a", "", "", apart(999, 30)...),
		heading("a", "", "", at(1, 1, 1), at(1, 3, 3), at(999, 1, 9999)),
		heading("a", "", "", at(1, 9999, 9999), at(2, 1, 1), at(2, 3, 9999)),
		{Name: "~! \"#$%&'()*+-./09<>?@AZ[\\]^_`az{|}"},
	} {
		holdFault(t, api.OK, h)
	}
	others := numbered("b", 9)
	holdFault(t, api.OK, append(of(heading("a", "", strings.Join(others[1:], "|"))), plain(others...)...)...)
	holdFault(t, api.OK, heading("a", "", "b"), heading("b", "", "a"))
	holdFault(t, api.OK, heading("a", "", "c"), heading("b", "", "a|c"), heading("c", "B", ""))
}

// P11.1: which texts are names; in each place where a name stands.
func TestP11_1CheckIndexNames(t *testing.T) {
	texts := []string{"", " ", "  ", " a", "a ", "a  b", "a b  c d", "a b c", "a, b", "a\n", "\ta", "é", "a\x00", strings.Repeat("y", 40), strings.Repeat("y", 41), strings.Repeat("y ", 20), strings.Repeat("y ", 20) + "y", strings.Repeat("y ", 19) + "yz"}
	for b := range 256 {
		c := string([]byte{byte(b)})
		texts = append(texts, c, c+"y", "y"+c, "y"+c+"y")
	}
	good := 0
	for _, text := range texts {
		want := api.OK
		if badName(text) {
			want = api.ErrArg
		} else {
			good++
		}
		holdFault(t, want, heading(text, "", ""))
		holdFault(t, want, index.Heading{Name: "##", Variants: []string{text}})
		l := of(index.Heading{Name: "##", Also: []string{text}}, heading(text, "", ""))
		if beforeOf(text, "##") {
			slices.Reverse(l)
		}
		holdFault(t, want, l...)
	}
	// Of the bytes 90 stand anywhere in a name, and a blank only inside; and three texts.
	if good != 90*4+1+3 {
		t.Errorf("%d of the texts are names", good)
	}
}

// P11.1: what is refused of a heading by itself.
func TestP11_1CheckIndexHeading(t *testing.T) {
	for _, h := range []index.Heading{
		{},
		heading("", "b", ""),
		heading("a", "c|b", ""), heading("a", "b|b", ""), heading("a", "b|B", ""), heading("a", "bc|b c", ""), heading("a", "b|c|d|c", ""), heading("z", "a|Z|y", ""),
		heading("a", "", "c|b"), heading("a", "", "b|b"), heading("a", "", "b|B"),
		heading("a", strings.Join(numbered("b", 9), "|"), ""),
		heading("a", "", strings.Join(numbered("b", 9), "|")),
		heading("a", "", "", apart(1, 31)...),
		heading("a", "", "", at(0, 1, 1)), heading("a", "", "", at(-1, 1, 1)), heading("a", "", "", at(1000, 1, 1)),
		heading("a", "", "", at(1, 0, 1)), heading("a", "", "", at(1, 0, 0)), heading("a", "", "", at(1, 2, 1)), heading("a", "", "", at(1, -2, -1)),
		heading("a", "", "", at(1, 1, 10000)), heading("a", "", "", at(1, 10000, 10000)), heading("a", "", "", at(1, 1, 0)),
		heading("a", "", "", at(math.MinInt, 1, 1)), heading("a", "", "", at(1, math.MinInt, math.MaxInt)), heading("a", "", "", at(1, 1, math.MaxInt), at(1, math.MinInt, 1)), heading("a", "", "", at(1, math.MaxInt, math.MaxInt)),
		heading("a", "", "", at(1, 1, 2), at(1, 3, 3)), heading("a", "", "", at(1, 1, 2), at(1, 2, 3)), heading("a", "", "", at(1, 1, 9), at(1, 3, 3)),
		heading("a", "", "", at(1, 1, 1), at(1, 1, 1)), heading("a", "", "", at(1, 5, 5), at(1, 1, 1)), heading("a", "", "", at(2, 1, 1), at(1, 3, 3)), heading("a", "", "", at(2, 1, 1), at(1, 1, 1)),
		heading("a", "", "", at(1, 1, 1), at(2, 1, 1), at(1, 5, 5)), heading("a", "", "", at(1, 3, 3), at(2, 1, 1), at(2, 2, 2)),
	} {
		holdFault(t, api.ErrArg, h)
	}
	// Beside all bounds of places.
	for _, p := range []index.Place{at(1, 1, 1), at(999, 9999, 9999), at(1, 1, 9999)} {
		for _, step := range [][3]int{{}, {-1}, {1}, {0, -1}, {0, 1}, {0, 0, -1}, {0, 0, 1}} {
			h := heading("a", "", "", at(p.Volume+step[0], p.From+step[1], p.To+step[2]))
			want := api.OK
			if badPlaces(h.Places) {
				want = api.ErrArg
			}
			holdFault(t, want, h)
		}
	}
}

// P11.1: all pairs of places in two volumes of five columns.
func TestP11_1CheckIndexPlaces(t *testing.T) {
	var all []index.Place
	for volume := 1; volume <= 2; volume++ {
		for from := 1; from <= 5; from++ {
			for to := from; to <= 5; to++ {
				all = append(all, at(volume, from, to))
			}
		}
	}
	for _, p := range all {
		for _, q := range all {
			l := of(heading("a", "", "", p, q))
			want := api.ErrArg
			if p.Volume < q.Volume || p.Volume == q.Volume && q.From > p.To+1 {
				want = api.OK
			}
			if e := index.CheckIndex(l); e != want {
				t.Fatalf("CheckIndex of %v: %v, not %v", l, e, want)
			}
		}
	}
}

// P11.1: what is refused of headings beside each other.
func TestP11_1CheckIndexHeadings(t *testing.T) {
	holdFault(t, api.ErrLimit, plain(numbered("x", 61)...)...)
	for _, l := range [][]index.Heading{
		plain("a", "a"), plain("b", "a", "b"), plain("a", "b", "a"),
		of(heading("a", "b", ""), heading("b", "", "")), of(heading("a", "", ""), heading("b", "a", "")),
		of(heading("a", "c", ""), heading("b", "c", "")), of(heading("a", "a", "")), of(heading("b", "a|b|c", "")), of(heading("a", "x|y", ""), heading("b", "", ""), heading("c", "w|y", "")),
	} {
		holdFault(t, api.ErrTwice, l...)
	}
	for _, l := range [][]index.Heading{
		plain("b", "a"), plain("a", "A"), plain("a b", "a-b", "ab", "a"), plain("a", "c", "b"), plain("ab", "a c", "a b"),
		of(heading("a", "", "a")), of(heading("a", "", "b")), of(heading("a", "b", "b")), of(heading("a", "", "A"), heading("b", "", "")),
		of(heading("a", "x", ""), heading("b", "", "x")), of(heading("a", "", "b|c"), heading("b", "", "")), of(heading("a", "", "a|b"), heading("b", "", "")),
		of(heading("a", "", ""), heading("b", "", "b")),
	} {
		holdFault(t, api.ErrArg, l...)
	}
}

// P11.1: what is asked ahead of what.
func TestP11_1CheckIndexOrder(t *testing.T) {
	bad := heading("a", "", "", at(0, 1, 1))
	holdFault(t, api.ErrLimit, append(plain(numbered("x", 60)...), bad)...)
	holdFault(t, api.ErrLimit, slices.Repeat(plain("a"), 61)...)
	holdFault(t, api.ErrArg, append(plain("b", "b"), bad)...)
	holdFault(t, api.ErrArg, append(of(bad), plain("b", "b")...)...)
	holdFault(t, api.ErrTwice, plain("b", "b", "a")...)
	holdFault(t, api.ErrTwice, plain("c", "b", "a", "c")...)
	holdFault(t, api.ErrTwice, of(heading("a", "", "x"), heading("b", "", ""), heading("b", "", ""))...)
	holdFault(t, api.ErrTwice, of(heading("a", "a", "a"))...)
	holdFault(t, api.ErrArg, heading("a", "a|a", ""))
	if e := index.CheckIndex(make([]index.Heading, 61)); e != api.ErrLimit {
		t.Fatalf("CheckIndex of 61 headings: %v", e)
	}
}

// P11.1: many indices, with something strange in some.
func TestP11_1CheckIndexMany(t *testing.T) {
	d := dice(1)
	seen := map[api.Errno]int{}
	for range 20000 {
		l := d.index(few(), 6)
		if d.one(2) {
			d.spoil(l)
		}
		want := faultOf(l)
		if e := index.CheckIndex(l); e != want {
			t.Fatalf("CheckIndex of %v: %v, not %v", l, e, want)
		}
		seen[want]++
	}
	for _, e := range []api.Errno{api.OK, api.ErrArg, api.ErrTwice} {
		if seen[e] < 800 {
			t.Errorf("%v is returned %d times", e, seen[e])
		}
	}
}

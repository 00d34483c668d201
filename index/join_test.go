package index_test

import (
	"slices"
	"strings"
	"testing"

	"palantype/api"
	"palantype/index"
)

// holdJoin holds that Join of the indices returns this one.
func holdJoin(t *testing.T, want []index.Heading, indices ...[]index.Heading) {
	t.Helper()
	if l, e := index.Join(indices); !same(l, want) || e != api.OK {
		t.Fatalf("Join of %v: %v, %v, not %v", indices, l, e, want)
	}
}

// holdNoJoin holds that Join of the indices returns the error, and nothing else.
func holdNoJoin(t *testing.T, want api.Errno, indices ...[]index.Heading) {
	t.Helper()
	if l, e := index.Join(indices); len(l) != 0 || e != want {
		t.Fatalf("Join of %v: %v, %v, not %v", indices, l, e, want)
	}
}

// holdJoined holds Join of the indices against what the chapter defines.
func holdJoined(t *testing.T, indices ...[]index.Heading) ([]index.Heading, api.Errno) {
	t.Helper()
	want, e := joinOf(indices)
	if e == api.OK {
		holdJoin(t, want, indices...)
	} else {
		holdNoJoin(t, e, indices...)
	}
	return want, e
}

// P11.2: the example of the chapter.
func TestP11_2JoinExample(t *testing.T) {
	holdJoin(t, joined(), first(), second())
	holdJoin(t, joined(), second(), first())
	holdJoin(t, joined(), joined(), first(), second(), second())
}

// P11.2: indices of which some headings are one.
func TestP11_2Join(t *testing.T) {
	for _, x := range []struct {
		name    string
		indices [][]index.Heading
		want    []index.Heading
	}{
		{"nothing", nil, nil},
		{"empty ones", years(nil, of(), nil), nil},
		{"one with an empty one", years(first(), nil), first()},
		{"what is apart", years(plain("b", "d"), plain("A", "c"), plain("?")), plain("?", "A", "b", "c", "d")},
		{"texts with one key are names of their own", years(plain("a b"), plain("ab"), plain("AB")), plain("AB", "a b", "ab")},
		{"the same Name", years(of(heading("a", "x", "", at(1, 1, 1))), of(heading("a", "w|y", "", at(1, 5, 5)))), of(heading("a", "w|x|y", "", at(1, 1, 1), at(1, 5, 5)))},
		{"a variant that is a Name", years(of(heading("b", "a", "")), plain("a")), of(heading("a", "b", ""))},
		{"variants that are the same", years(of(heading("b", "x", "")), of(heading("c", "x|y", "")), of(heading("d", "y", ""))), of(heading("b", "c|d|x|y", ""))},
		{"a variant that comes before all Names", years(of(heading("b", "a", "")), of(heading("c", "a", ""))), of(heading("b", "a|c", ""))},
		{"the first of the Names, not of the names", years(of(heading("d", "a|b", "")), of(heading("c", "b", ""))), of(heading("c", "a|b|d", ""))},
		{"two headings of one index", years(plain("a", "c"), of(heading("b", "a|c", ""))), of(heading("a", "b|c", ""))},
		{"a chain", years(of(heading("e", "d", "")), of(heading("b", "a", "")), of(heading("c", "b|d", ""))), of(heading("b", "a|c|d|e", ""))},
		{"what is related is found under the other Name", years(of(heading("a", "", "c"), heading("c", "", "")), of(heading("b", "c", ""))), of(heading("a", "", "b"), heading("b", "c", ""))},
		{"two that are related to it are one", years(of(heading("a", "", "c|d"), heading("c", "", ""), heading("d", "", "")), of(heading("c", "d", ""))), of(heading("a", "", "c"), heading("c", "d", ""))},
		{"related in one index, or in another one", years(of(heading("a", "", "b"), heading("b", "", "")), of(heading("a", "", "c"), heading("c", "", "a"))), of(heading("a", "", "b|c"), heading("b", "", ""), heading("c", "", "a"))},
		{"related to what is one with it", years(of(heading("a", "", "b"), heading("b", "", "a")), of(heading("a", "b", ""))), of(heading("a", "b", ""))},
		{"related to it, and to another one", years(of(heading("a", "", "b|c"), heading("b", "", "c"), heading("c", "", "b")), of(heading("b", "a", ""))), of(heading("a", "b", "c"), heading("c", "", "a"))},
		{"related to each other, and not to themselves", years(of(heading("a", "", "d"), heading("b", "", "c"), heading("c", "", "a"), heading("d", "", "b")), of(heading("a", "b", ""), heading("c", "d", ""))), of(heading("a", "b", "c"), heading("c", "d", "a"))},
		{"names in Also take a new order", years(of(heading("a", "", ""), heading("m", "", "a|z"), heading("z", "", "")), of(heading("0", "z", ""))), of(heading("0", "z", ""), heading("a", "", ""), heading("m", "", "0|a"))},
	} {
		if want, e := joinOf(x.indices); !same(want, x.want) || e != api.OK {
			t.Fatalf("%s: the test has %v, %v, not %v", x.name, want, e, x.want)
		}
		holdJoin(t, x.want, x.indices...)
		slices.Reverse(x.indices)
		holdJoin(t, x.want, x.indices...)
	}
}

// P11.2: the places of headings that are one.
func TestP11_2JoinPlaces(t *testing.T) {
	places := func(l ...index.Place) []index.Heading { return of(heading("a", "", "", l...)) }
	for _, x := range []struct{ a, b, want []index.Heading }{
		{places(at(1, 1, 1)), places(), places(at(1, 1, 1))},
		{places(at(1, 1, 1)), places(at(1, 1, 1)), places(at(1, 1, 1))},
		{places(at(1, 1, 1)), places(at(1, 2, 2)), places(at(1, 1, 2))},
		{places(at(1, 1, 1)), places(at(1, 3, 3)), places(at(1, 1, 1), at(1, 3, 3))},
		{places(at(1, 1, 1), at(1, 3, 3)), places(at(1, 2, 2)), places(at(1, 1, 3))},
		{places(at(1, 1, 5)), places(at(1, 2, 3)), places(at(1, 1, 5))},
		{places(at(1, 1, 5)), places(at(1, 3, 8)), places(at(1, 1, 8))},
		{places(at(1, 1, 9), at(1, 20, 30)), places(at(1, 2, 3), at(1, 5, 6), at(1, 8, 19)), places(at(1, 1, 30))},
		{places(at(1, 1, 9999)), places(at(2, 1, 9999)), places(at(1, 1, 9999), at(2, 1, 9999))},
		{places(at(2, 1, 1)), places(at(1, 5, 6), at(3, 2, 2)), places(at(1, 5, 6), at(2, 1, 1), at(3, 2, 2))},
		{places(at(1, 9999, 9999)), places(at(2, 1, 1)), places(at(1, 9999, 9999), at(2, 1, 1))},
		{places(at(1, 1, 3)), places(at(2, 2, 4)), places(at(1, 1, 3), at(2, 2, 4))},
		{places(at(999, 1, 1), at(999, 9999, 9999)), places(at(999, 2, 9998)), places(at(999, 1, 9999))},
	} {
		holdJoin(t, x.want, x.a, x.b)
		holdJoin(t, x.want, x.b, x.a)
		holdJoin(t, x.want, x.b, x.a, x.want)
	}
	// Of three, the one in the middle comes last.
	holdJoin(t, places(at(1, 1, 7)), places(at(1, 1, 2)), places(at(1, 6, 7)), places(at(1, 3, 5)))
	// Places of headings that are two stay apart.
	holdJoin(t, of(heading("a", "", "", at(1, 1, 1)), heading("b", "", "", at(1, 2, 2))), places(at(1, 1, 1)), of(heading("b", "", "", at(1, 2, 2))))
}

// smallIndices are all indices of the names; each heading has a place of its own
// column, by where it stands, in the volume.
func smallIndices(volume int, names ...string) [][]index.Heading {
	all := [][]index.Heading{nil}
	for _, name := range names {
		var more [][]index.Heading
		for _, l := range all {
			more = append(more, append(cloned(l), heading(name, "", "")))
			for i := range l {
				variant, head := cloned(l), cloned(l)
				variant[i].Variants = append(variant[i].Variants, name)
				head[i].Variants = ordered(append(head[i].Variants, head[i].Name))
				head[i].Name = name
				more = append(more, variant, head)
			}
		}
		all = append(all, more...)
	}
	var list [][]index.Heading
	for _, l := range all {
		slices.SortFunc(l, func(g, h index.Heading) int { return strings.Compare(g.Name, h.Name) })
		for i := range l {
			l[i].Places = []index.Place{at(volume, 2*i+1, 2*i+1)}
		}
		if !slices.ContainsFunc(list, func(o []index.Heading) bool { return same(l, o) }) {
			list = append(list, related(l)...)
		}
	}
	return list
}

// related returns the index in all ways in which its headings may be related.
func related(l []index.Heading) [][]index.Heading {
	all := [][]index.Heading{l}
	for i := range l {
		for k := range l {
			for _, x := range all {
				if i != k {
					x = cloned(x)
					x[i].Also = append(x[i].Also, l[k].Name)
					all = append(all, x)
				}
			}
		}
	}
	return all
}

// P11.2, with P11.6 to P11.8: all pairs of the small indices of three names; and each
// with those of other names.
func TestP11_2JoinAllPairs(t *testing.T) {
	all, other := smallIndices(1, "a", "b", "c"), smallIndices(2, "b", "c", "d")
	if len(all) != 1+12+36+64 { // by how many headings they have
		t.Fatalf("%d small indices", len(all))
	}
	for _, a := range all {
		for _, l := range [][][]index.Heading{all, other} {
			for _, b := range l {
				want, e := holdJoined(t, a, b)
				if e != api.OK || faultOf(want) != api.OK {
					t.Fatalf("%v and %v: %v, %v", a, b, want, e)
				}
			}
		}
	}
}

// P11.2: many indices of few names.
func TestP11_2JoinMany(t *testing.T) {
	d := dice(2)
	seen := map[api.Errno]int{}
	ones := 0 // headings that were one with others
	for range 4000 {
		indices := d.years(6, 6)
		want, e := holdJoined(t, indices...)
		seen[e]++
		if e == api.OK {
			ones += len(slices.Concat(indices...)) - len(want)
		}
	}
	if seen[api.OK] < 2000 || seen[api.ErrLimit] < 300 || ones < 5000 {
		t.Errorf("%v; %d were one with others", seen, ones)
	}
}

// P11.2: the most that a joined index may have, and one more.
func TestP11_2JoinLimits(t *testing.T) {
	list := func(l []string) string { return strings.Join(l, "|") }
	v, also := numbered("v", 9), numbered("r", 9)
	others := plain(also...)
	relates := func(from, to int) []index.Heading {
		return append(of(heading("a", "", list(also[from:to]))), others...)
	}
	x := numbered("x", 61)
	for _, y := range []struct {
		name           string
		within, beyond [][]index.Heading
	}{
		{"headings", years(plain(x[:40]...), plain(x[30:60]...)), years(plain(x[:40]...), plain(x[30:61]...))},
		{"variants", years(of(heading("a", list(v[:5]), "")), of(heading("a", list(v[3:8]), ""))), years(of(heading("a", list(v[:5]), "")), of(heading("a", list(v[3:9]), "")))},
		{"Names that become variants", years(plain(v[1:]...), of(heading("a", list(v[1:]), ""))), years(plain(v...), of(heading("a", list(v[1:]), "")), of(heading("a", list(v[:1]), "")))},
		{"Also", years(relates(0, 5), relates(2, 8)), years(relates(0, 5), relates(2, 9))},
		{"places", years(of(heading("a", "", "", apart(1, 20)...)), of(heading("a", "", "", apart(2, 10)...))), years(of(heading("a", "", "", apart(1, 20)...)), of(heading("a", "", "", apart(2, 11)...)))},
		{"indices", slices.Repeat(years(first()), 12), slices.Repeat(years(first()), 13)},
	} {
		if want, e := holdJoined(t, y.within...); e != api.OK || len(want) == 0 {
			t.Fatalf("%s: %v, %v", y.name, want, e)
		}
		holdNoJoin(t, api.ErrLimit, y.beyond...)
		if _, e := joinOf(y.beyond); e != api.ErrLimit {
			t.Fatalf("%s: the test has %v", y.name, e)
		}
	}
	// More on the way, but not in the end.
	if want, e := holdJoined(t, relates(0, 5), relates(2, 9), of(heading("r100", "r108", ""))); e != api.OK || len(want[0].Also) != 8 {
		t.Fatalf("nine related ones of which two are one: %v, %v", want, e)
	}
	holdJoin(t, of(heading("a", "", "", at(1, 1, 59), at(2, 1, 1))), of(heading("a", "", "", apart(1, 30)...)), of(heading("a", "", "", at(1, 1, 59))), of(heading("a", "", "", at(2, 1, 1))))
	holdNoJoin(t, api.ErrLimit, make([][]index.Heading, 13)...)
	holdJoin(t, nil, make([][]index.Heading, 12)...)
}

// P11.2: the largest indices, apart and all of them one.
func TestP11_2JoinLarge(t *testing.T) {
	var apart, chain [][]index.Heading
	for year := range 12 {
		a := largest(string(rune('a' + year)))
		apart = append(apart, a)
		b := largest(string(rune('a' + year)))
		for i := range b {
			next := string(rune('a'+year+1)) + b[i].Name[1:]
			b[i].Variants[7] = next // the name of a heading of the next year
		}
		chain = append(chain, b)
	}
	holdNoJoin(t, api.ErrLimit, apart...)
	holdNoJoin(t, api.ErrLimit, chain...)
	holdJoin(t, apart[0], slices.Repeat(years(apart[0]), 12)...)
}

// P11.2: what is refused, and in which order.
func TestP11_2JoinRefuses(t *testing.T) {
	limit, arg, twice := plain(numbered("x", 61)...), plain(""), plain("a", "a")
	for _, x := range []struct {
		l []index.Heading
		e api.Errno
	}{{limit, api.ErrLimit}, {arg, api.ErrArg}, {twice, api.ErrTwice}} {
		holdNoJoin(t, x.e, x.l)
		holdNoJoin(t, x.e, x.l, arg)
		holdNoJoin(t, x.e, x.l, twice, limit, first())
		holdNoJoin(t, x.e, first(), x.l, arg, limit)
		holdNoJoin(t, x.e, first(), second(), nil, x.l)
		holdNoJoin(t, x.e, plain(numbered("x", 40)...), plain(numbered("y", 40)...), x.l) // that would be too many, too
		holdNoJoin(t, api.ErrLimit, append(make([][]index.Heading, 12), x.l)...)
	}
}

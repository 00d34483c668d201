package veil_test

import (
	"math"
	"slices"
	"strings"
	"testing"

	"palantype/api"
	"palantype/veil"
)

// holdLook holds that Look returns these pieces.
func holdLook(t *testing.T, r veil.Report, x veil.Reader, want ...veil.Piece) {
	t.Helper()
	if l, e := veil.Look(r, x); !slices.Equal(l, want) || e != api.OK {
		t.Fatalf("Look of %v, %v: %v, %v, not %v", r, x, l, e, want)
	}
}

// holdIndex holds that Index returns these entries.
func holdIndex(t *testing.T, r veil.Report, x veil.Reader, want ...veil.Entry) {
	t.Helper()
	if l, e := veil.Index(r, x); !sameIndex(l, want) || e != api.OK {
		t.Fatalf("Index of %v, %v: %v, %v, not %v", r, x, l, e, want)
	}
}

// holdFind holds that Find returns the words of all pieces, one behind the other,
// where -1 is that of a gap; and no word of other pieces.
func holdFind(t *testing.T, r veil.Report, x veil.Reader, words ...int) {
	t.Helper()
	for piece, want := range words {
		n, e := veil.Find(r, x, piece)
		switch {
		case want < 0 && (n != 0 || e != api.ErrNone):
			t.Fatalf("Find of %v, %v, %d: %v, %v, but it is a gap", r, x, piece, n, e)
		case want >= 0 && (n != want || e != api.OK):
			t.Fatalf("Find of %v, %v, %d: %v, %v, not %v", r, x, piece, n, e, want)
		}
	}
	for _, piece := range []int{math.MinInt, -60, -len(words) - 1, -len(words), -2, -1, len(words), len(words) + 1, len(words) + 60, 1 << 32, math.MaxInt} {
		if piece >= 0 && piece < len(words) {
			continue
		}
		if n, e := veil.Find(r, x, piece); n != 0 || e != api.ErrNone {
			t.Fatalf("Find of %v, %v, %d: %v, %v, but there is no such piece", r, x, piece, n, e)
		}
	}
}

// holdSight holds what is seen of the report against what the chapter defines.
func holdSight(t *testing.T, r veil.Report, x veil.Reader) {
	t.Helper()
	s := shownTo(r, x)
	holdLook(t, r, x, s.pieces...)
	holdIndex(t, r, x, indexOf(r, x)...)
	holdFind(t, r, x, s.words...)
}

// holdAll holds all that is told of the report, with the reader, against what the
// chapter defines.
func holdAll(t *testing.T, r veil.Report, x veil.Reader) {
	t.Helper()
	holdSight(t, r, x)
	holdClosed(t, r, x, closedOf(r, x)...)
	holdUseless(t, r, x, uselessOf(r, x)...)
	holdFewest(t, r, x, fewestOf(r, x))
	holdAgree(t, r, r, x, true)
}

// seen returns the pieces that a text says: * is a gap, and columns end with a
// stroke.
func seen(text string) []veil.Piece {
	var l []veil.Piece
	for i, column := range strings.Split(text, "/") {
		for _, w := range strings.Fields(column) {
			l = append(l, piece(strings.Trim(w, "*"), i+1))
		}
	}
	return l
}

// P9.1: the examples of the chapter and of the document.
func TestP9_1LookExamples(t *testing.T) {
	for _, x := range []struct {
		reader veil.Reader
		want   string
	}{
		{in(0), "we met the / * today"},
		{in(1970), "we met the / * today"},
		{in(1974), "we met the / * today"},
		{in(1975), "we met the / * today"},
		{in(1979), "we met the / * today"},
		{in(1980), "we met the / * in Bern / today"},
		{in(1985), "we met the / * in Bern / today"},
		{in(1989), "we met the / * in Bern / today"},
		{in(1990), "we met the / envoy in Bern / today"},
		{in(api.MaxYear), "we met the / envoy in Bern / today"},
		{in(1970, 1), "we met the / envoy * today"},
		{in(1979, 1), "we met the / envoy * today"},
		{in(1980, 1), "we met the / envoy in Bern / today"},
		{in(1974, 2), "we met the / * in * / today"},
		{in(1975, 2), "we met the / * in Bern / today"},
		{in(1970, 1, 2), "we met the / envoy in Bern / today"},
		{in(1970, 0, 3, 4, 5, 6, 7), "we met the / * today"},
	} {
		holdLook(t, bern(), x.reader, seen(x.want)...)
	}
	// Three words that three orders hide are one blank piece.
	r := spoken("a b c d", 2, order(0, 1, 1, 5), order(1, 2, 2, 5), order(2, 3, 3, 5))
	holdLook(t, r, in(0), piece("", 1), piece("d", 1))
}

// P9.1: gaps before, between and behind, and columns that are full.
func TestP9_1Look(t *testing.T) {
	text := "a b c d e f"
	for _, x := range []struct {
		columns int
		orders  []veil.Order
		want    string
	}{
		{20, nil, "a b c d e f"},
		{6, nil, "a b c d e f"},
		{5, nil, "a b c d e / f"},
		{3, nil, "a b c / d e f"},
		{2, nil, "a b / c d / e f"},
		{1, nil, "a / b / c / d / e / f"},
		{3, []veil.Order{order(0, 1, 0, 1)}, "* b c / d e f"},
		{3, []veil.Order{order(0, 2, 0, 1)}, "* c d / e f"},
		{3, []veil.Order{order(0, 5, 0, 1)}, "* f"},
		{3, []veil.Order{order(0, 6, 0, 1)}, "*"},
		{3, []veil.Order{order(5, 6, 0, 1)}, "a b c / d e *"},
		{3, []veil.Order{order(4, 6, 0, 1)}, "a b c / d *"},
		{1, []veil.Order{order(1, 6, 0, 1)}, "a / *"},
		{2, []veil.Order{order(1, 5, 0, 1)}, "a * / f"},
		{2, []veil.Order{order(2, 3, 0, 1)}, "a b / * d / e f"},
		{1, []veil.Order{order(0, 1, 0, 1), order(2, 3, 0, 1), order(4, 5, 0, 1)}, "* / b / * / d / * / f"},
		{2, []veil.Order{order(4, 5, 0, 1), order(0, 1, 0, 1), order(2, 3, 0, 1)}, "* b / * d / * f"},
		// Orders that meet, or overlap, or are one in the other, make one gap.
		{2, []veil.Order{order(1, 2, 0, 1), order(2, 3, 1, 2)}, "a * / d e / f"},
		{2, []veil.Order{order(2, 4, 1, 2), order(1, 3, 0, 1)}, "a * / e f"},
		{2, []veil.Order{order(1, 5, 1, 2), order(2, 3, 0, 1)}, "a * / f"},
		{2, []veil.Order{order(1, 2, 1, 2), order(3, 4, 0, 1), order(2, 3, 5, 9)}, "a * / e f"},
		{2, []veil.Order{order(1, 3, 1, 2), order(1, 3, 1, 2)}, "a * / d e / f"},
		// Orders that end in the year 0 hide nothing.
		{2, []veil.Order{order(0, 6, 0, 0)}, "a b / c d / e f"},
		{2, []veil.Order{order(0, 4, 0, 0), order(3, 4, 0, 1)}, "a b / c * / e f"},
	} {
		r := spoken(text, x.columns, x.orders...)
		holdLook(t, r, in(0), seen(x.want)...)
		holdSight(t, r, in(0))
	}
	for _, columns := range []int{1, 20} {
		holdLook(t, veil.Report{Columns: columns}, in(0))
	}
	// Words that are the same, or look like a gap, are shown each.
	holdLook(t, spoken("a a - * a", 2, order(1, 2, 0, 1)), in(0), piece("a", 1), piece("", 1), piece("-", 2), piece("*", 2), piece("a", 3))
}

// P9.1: the year until which an order hides, and the kinds that one may read.
func TestP9_1LookHolds(t *testing.T) {
	for _, until := range []int{0, 1, 2, 1990, api.MaxYear - 1, api.MaxYear} {
		for kind := range api.MaxOrderKind + 1 {
			r := spoken("a b c", 20, order(1, 2, kind, until))
			all, gap := seen("a b c"), seen("a * c")
			for _, year := range []int{until - 2, until - 1, until, until + 1} {
				if year < 0 || year > api.MaxYear {
					continue
				}
				want := all
				if year < until {
					want = gap
				}
				holdLook(t, r, in(year), want...)
				var others []int
				for other := range api.MaxOrderKind + 1 {
					if other != kind {
						others = append(others, other)
					}
				}
				holdLook(t, r, in(year, others...), want...)
				holdLook(t, r, in(year, kind), all...)
				holdLook(t, r, in(year, 0, 1, 2, 3, 4, 5, 6, 7), all...)
			}
		}
	}
}

// P9.1: all sets of hidden words of small reports, in all columns.
func TestP9_1LookAllSets(t *testing.T) {
	for words := range 8 {
		for set := range 1 << words {
			for columns := 1; columns <= words+1; columns++ {
				var each, runs []veil.Order
				for i := range words {
					switch {
					case set>>i&1 == 0:
						continue
					case i > 0 && set>>(i-1)&1 == 1:
						runs[len(runs)-1].To++
					default:
						runs = append(runs, order(i, i+1, 0, 1))
					}
					each = append(each, order(i, i+1, 1, 2))
				}
				for _, orders := range [][]veil.Order{each, runs} {
					r := long(words, columns, orders...)
					holdSight(t, r, in(0))
					holdFind(t, r, in(2), numbersTo(words)...)
				}
			}
		}
	}
}

// numbersTo returns the numbers from 0 on, so many.
func numbersTo(count int) []int {
	var l []int
	for i := range count {
		l = append(l, i)
	}
	return l
}

// smallOrders are all orders of so few words, of two kinds and with three years.
func smallOrders(words int) []veil.Order {
	var l []veil.Order
	for from := range words {
		for to := from + 1; to <= words; to++ {
			for kind := range 2 {
				for until := range 3 {
					l = append(l, order(from, to, kind, until))
				}
			}
		}
	}
	return l
}

// P9.1 to P9.5: all pairs of orders of three words, and all readers.
func TestP9_1AllPairsOfOrders(t *testing.T) {
	orders := smallOrders(3)
	for _, a := range orders {
		for _, b := range orders {
			r := veil.Report{Columns: 2, Words: []veil.Word{word("a", 1, 2), word("b", 2), word("c", 0, 1)}, Orders: []veil.Order{a, b}}
			for year := range 3 {
				for _, may := range [][]int{nil, {0}, {1}, {0, 1}} {
					holdAll(t, r, in(year, may...))
				}
			}
		}
	}
}

// P9.1 to P9.5: many reports, small and large ones.
func TestP9_1Many(t *testing.T) {
	d := dice(1)
	gaps, shownWords, useless, saved := 0, 0, 0, 0
	for i := range 4000 {
		r, x := d.report(12, 6, 9), d.reader(9)
		if i%8 == 0 {
			r = d.report(api.MaxPrinted, api.MaxOrders, 9)
			r.Columns = d.roll(1, api.MaxColumn)
		}
		holdAll(t, r, x)
		gaps += len(gapsOf(r, x))
		for _, hidden := range veilOf(r, x) {
			if !hidden {
				shownWords++
			}
		}
		n := len(uselessOf(r, x))
		useless += n
		if fewestOf(r, x) > len(holding(r, x))-n {
			saved++ // not all that are useless can be left out together
		}
	}
	if gaps < 2000 || shownWords < 15000 || useless < 800 || saved < 100 {
		t.Errorf("%d gaps, %d words, %d useless orders, %d times some of them needed", gaps, shownWords, useless, saved)
	}
}

// P9.2: the examples of the chapter.
func TestP9_2IndexExamples(t *testing.T) {
	holdIndex(t, bern(), in(1970), entry(8, 2))
	holdIndex(t, bern(), in(1985), entry(5, 2), entry(8, 3))
	holdIndex(t, bern(), in(1970, 1), entry(3, 2), entry(5, 2), entry(8, 2))
	holdIndex(t, bern(), in(1990), entry(3, 2), entry(5, 2), entry(8, 3))
	holdIndex(t, bern(), in(1974, 2), entry(8, 3))
}

// P9.2: heads and columns.
func TestP9_2Index(t *testing.T) {
	words := []veil.Word{word("a", 7, 9), word("b", 7), word("c"), word("d", 0, 7, 99), word("e", 9), word("f", 7)}
	for _, x := range []struct {
		columns int
		orders  []veil.Order
		want    []veil.Entry
	}{
		// Each column once, also if several of its words have the head.
		{6, nil, []veil.Entry{entry(0, 1), entry(7, 1), entry(9, 1), entry(99, 1)}},
		{3, nil, []veil.Entry{entry(0, 2), entry(7, 1, 2), entry(9, 1, 2), entry(99, 2)}},
		{2, nil, []veil.Entry{entry(0, 2), entry(7, 1, 2, 3), entry(9, 1, 3), entry(99, 2)}},
		{1, nil, []veil.Entry{entry(0, 4), entry(7, 1, 2, 4, 6), entry(9, 1, 5), entry(99, 4)}},
		// What is hidden has no entry, and a gap takes the place of one piece.
		{1, []veil.Order{order(3, 4, 0, 1)}, []veil.Entry{entry(7, 1, 2, 6), entry(9, 1, 5)}},
		{1, []veil.Order{order(0, 3, 0, 1)}, []veil.Entry{entry(0, 2), entry(7, 2, 4), entry(9, 3), entry(99, 2)}},
		{2, []veil.Order{order(1, 4, 0, 1)}, []veil.Entry{entry(7, 1, 2), entry(9, 1, 2)}},
		{3, []veil.Order{order(0, 5, 0, 1)}, []veil.Entry{entry(7, 1)}},
		{3, []veil.Order{order(0, 2, 0, 1), order(3, 6, 0, 1)}, nil},
		{3, []veil.Order{order(0, 6, 0, 1)}, nil},
	} {
		holdIndex(t, veil.Report{Words: words, Orders: x.orders, Columns: x.columns}, in(0), x.want...)
		holdIndex(t, veil.Report{Words: words, Orders: x.orders, Columns: x.columns}, in(1), indexOf(veil.Report{Words: words, Columns: x.columns}, in(1))...)
	}
	holdIndex(t, veil.Report{Columns: 1}, in(0))
	holdIndex(t, long(60, 1), in(0))
}

// P9.2: each head is where its word is, and as many entries as there may be.
func TestP9_2IndexAllHeads(t *testing.T) {
	r := long(20, 1)
	var all []veil.Entry
	for i := range r.Words {
		for k := range 5 {
			head := 99 - 5*i - k
			r.Words[i].Heads = append([]int{head}, r.Words[i].Heads...)
			all = append([]veil.Entry{entry(head, i+1)}, all...)
		}
	}
	holdIndex(t, r, in(0), all...)
	r.Orders = []veil.Order{order(0, 2, 0, 1), order(17, 20, 0, 1)}
	want := slices.Clone(all[15:90]) // the last words have the first heads
	for i := range want {
		want[i] = entry(want[i].Head, want[i].Columns[0]-1)
	}
	holdIndex(t, r, in(0), want...)
}

// P9.3: the examples of the chapter, and all pieces there.
func TestP9_3Find(t *testing.T) {
	if n, e := veil.Find(bern(), in(1970), 4); n != 6 || e != api.OK {
		t.Fatalf("Find of 4: %v, %v", n, e)
	}
	if n, e := veil.Find(bern(), in(1970), 3); n != 0 || e != api.ErrNone {
		t.Fatalf("Find of 3: %v, %v", n, e)
	}
	holdFind(t, bern(), in(1970), 0, 1, 2, -1, 6)
	holdFind(t, bern(), in(1985), 0, 1, 2, -1, 4, 5, 6)
	holdFind(t, bern(), in(1974, 2), 0, 1, 2, -1, 4, -1, 6)
	holdFind(t, bern(), in(1990), 0, 1, 2, 3, 4, 5, 6)
	holdFind(t, bern(), in(1970, 1), 0, 1, 2, 3, -1, 6)
}

// P9.3: gaps before and behind, words that are all the same, and no words.
func TestP9_3FindEdges(t *testing.T) {
	same := func(columns int, orders ...veil.Order) veil.Report {
		return veil.Report{Words: slices.Repeat([]veil.Word{word("a")}, 8), Orders: orders, Columns: columns}
	}
	for columns := 1; columns <= 9; columns++ {
		holdFind(t, same(columns), in(0), 0, 1, 2, 3, 4, 5, 6, 7)
		holdFind(t, same(columns, order(0, 3, 0, 1)), in(0), -1, 3, 4, 5, 6, 7)
		holdFind(t, same(columns, order(5, 8, 0, 1)), in(0), 0, 1, 2, 3, 4, -1)
		holdFind(t, same(columns, order(0, 1, 0, 1), order(2, 4, 0, 1), order(7, 8, 0, 1)), in(0), -1, 1, -1, 4, 5, 6, -1)
		holdFind(t, same(columns, order(0, 8, 0, 1)), in(0), -1)
	}
	holdFind(t, veil.Report{Columns: 1}, in(0))
	holdFind(t, long(api.MaxPrinted, 7), in(0), numbersTo(api.MaxPrinted)...)
}

package veil_test

import (
	"math"
	"slices"
	"strings"
	"testing"

	"palantype/api"
	"palantype/veil"
)

// holdNothing holds that all calls with the report and the reader return the error,
// and nothing else.
func holdNothing(t *testing.T, r veil.Report, x veil.Reader, want api.Errno) {
	t.Helper()
	if l, e := veil.Look(r, x); len(l) != 0 || e != want {
		t.Fatalf("Look of %v, %v: %v, %v, not %v", r, x, l, e, want)
	}
	if l, e := veil.Index(r, x); len(l) != 0 || e != want {
		t.Fatalf("Index of %v, %v: %v, %v, not %v", r, x, l, e, want)
	}
	for _, piece := range []int{math.MinInt, -1, 0, 1, 2, 60, math.MaxInt} {
		if n, e := veil.Find(r, x, piece); n != 0 || e != want {
			t.Fatalf("Find of %v, %v, %d: %v, %v, not %v", r, x, piece, n, e, want)
		}
	}
	if l, e := veil.Closed(r, x); len(l) != 0 || e != want {
		t.Fatalf("Closed of %v, %v: %v, %v, not %v", r, x, l, e, want)
	}
	if l, e := veil.Useless(r, x); len(l) != 0 || e != want {
		t.Fatalf("Useless of %v, %v: %v, %v, not %v", r, x, l, e, want)
	}
	if n, e := veil.Fewest(r, x); n != 0 || e != want {
		t.Fatalf("Fewest of %v, %v: %v, %v, not %v", r, x, n, e, want)
	}
	holdNoAgree(t, r, r, x, want)
}

// holdNoAgree holds that Agree returns the error, and nothing else.
func holdNoAgree(t *testing.T, a, b veil.Report, x veil.Reader, want api.Errno) {
	t.Helper()
	if is, e := veil.Agree(a, b, x); is || e != want {
		t.Fatalf("Agree of %v, %v, %v: %v, %v, not %v", a, b, x, is, e, want)
	}
}

// readers are some that are valid, and some that are not.
func readers() []veil.Reader {
	return []veil.Reader{in(0), in(1970), in(1980, 1, 2), in(api.MaxYear, 0, 7), in(-1), in(api.MaxYear + 1), in(1970, 8), in(1970, 2, 2)}
}

// holdFault holds that CheckReport returns the error of the report, or OK; and all
// other calls the same one, whatever the reader is.
func holdFault(t *testing.T, r veil.Report, want api.Errno) {
	t.Helper()
	if e := veil.CheckReport(r); e != want {
		t.Fatalf("CheckReport of %v: %v, not %v", r, e, want)
	}
	if e := faultOf(r); e != want {
		t.Fatalf("%v has %v, not %v", r, e, want)
	}
	for _, x := range readers() {
		if want != api.OK {
			holdNothing(t, r, x, want)
			holdNoAgree(t, bern(), r, x, want)
			holdNoAgree(t, r, bern(), x, want)
		} else if faultOfReader(x) == api.OK {
			holdAll(t, r, x)
		}
	}
}

// full is a valid report with as much of everything as there may be.
func full() veil.Report {
	r := veil.Report{Columns: api.MaxColumn}
	for i := range api.MaxPrinted {
		r.Words = append(r.Words, word(strings.Repeat(string(rune(33+i)), api.MaxTextBytes), 0, i+1, i+2, i+3, api.MaxHead))
	}
	for i := range api.MaxOrders {
		r.Orders = append(r.Orders, order(4*i, api.MaxPrinted-i, i%(api.MaxOrderKind+1), api.MaxYear-i))
	}
	return r
}

// P9.1: what is just within the limits.
func TestP9_1CheckReportAccepts(t *testing.T) {
	holdFault(t, bern(), api.OK)
	holdFault(t, full(), api.OK)
	holdFault(t, veil.Report{Columns: 1}, api.OK)
	holdFault(t, long(api.MaxPrinted, api.MaxColumn, slices.Repeat([]veil.Order{order(0, api.MaxPrinted, 7, api.MaxYear)}, api.MaxOrders)...), api.OK)
	for columns := 1; columns <= api.MaxColumn; columns++ {
		holdFault(t, veil.Report{Columns: columns}, api.OK)
		holdFault(t, long(columns+1, columns), api.OK)
	}
	for b := 33; b <= 126; b++ {
		holdFault(t, spoken(string(rune(b)), 1), api.OK)
		holdFault(t, spoken("a"+string(rune(b))+"b", 1), api.OK)
	}
	for bytes := 1; bytes <= api.MaxTextBytes; bytes++ {
		holdFault(t, spoken(strings.Repeat("x", bytes), 1), api.OK)
	}
	for head := range api.MaxHead + 1 {
		holdFault(t, veil.Report{Columns: 1, Words: []veil.Word{word("a", head)}}, api.OK)
	}
	for _, heads := range [][]int{nil, {}, {0, 1, 2, 3, 4}, {0, 25, 50, 75, 99}, {95, 96, 97, 98, 99}} {
		holdFault(t, veil.Report{Columns: 1, Words: []veil.Word{word("a", heads...), word("a", heads...)}}, api.OK)
	}
	for _, o := range []veil.Order{order(0, 1, 0, 0), order(0, 7, 0, 0), order(6, 7, 0, 0), order(0, 1, 7, api.MaxYear), order(0, 7, 7, 1), order(3, 4, 0, api.MaxYear)} {
		holdFault(t, spoken("a b c d e f g", 2, o), api.OK)
		holdFault(t, spoken("a b c d e f g", 2, o, o), api.OK)
		holdFault(t, spoken("a b c d e f g", 2, order(2, 5, 3, 3), o), api.OK)
	}
}

// change returns the report of the examples with a change.
func change(change func(r *veil.Report)) veil.Report {
	r := cloned(bern())
	change(&r)
	return r
}

// P9.1: what there is too much of.
func TestP9_1CheckReportLimits(t *testing.T) {
	holdFault(t, long(api.MaxPrinted+1, 3), api.ErrLimit)
	holdFault(t, long(1000, 3), api.ErrLimit)
	holdFault(t, change(func(r *veil.Report) { r.Orders = slices.Repeat(r.Orders[:1], api.MaxOrders+1) }), api.ErrLimit)
	for i := range 7 {
		holdFault(t, change(func(r *veil.Report) { r.Words[i].Heads = []int{1, 2, 3, 4, 5, 6} }), api.ErrLimit)
	}
	// It is asked ahead of what is not valid otherwise.
	holdFault(t, veil.Report{Words: make([]veil.Word, api.MaxPrinted+1)}, api.ErrLimit)
	holdFault(t, veil.Report{Orders: make([]veil.Order, api.MaxOrders+1)}, api.ErrLimit)
	holdFault(t, change(func(r *veil.Report) { r.Words[6].Heads = make([]int, 6) }), api.ErrLimit)
	holdFault(t, change(func(r *veil.Report) { r.Columns, r.Words[6].Heads = 0, []int{1, 2, 3, 4, 5, 6} }), api.ErrLimit)
	holdFault(t, change(func(r *veil.Report) { r.Words[0].Text, r.Words[6].Heads = "", []int{-1, 2, 3, 4, 5, 6} }), api.ErrLimit)
	holdFault(t, change(func(r *veil.Report) { r.Orders = slices.Repeat([]veil.Order{order(5, 4, 9, -1)}, api.MaxOrders+1) }), api.ErrLimit)
}

// P9.1: words, orders and Columns that are not valid.
func TestP9_1CheckReportRefuses(t *testing.T) {
	var bytes []string
	for b := range 256 {
		if b < 33 || b > 126 {
			bytes = append(bytes, string([]byte{byte(b)}), "a"+string([]byte{byte(b)}), string([]byte{byte(b)})+"a")
		}
	}
	for _, text := range append(bytes, "", "a b", "é", "\u3042", strings.Repeat("x", api.MaxTextBytes+1), strings.Repeat("x", 1000)) {
		holdFault(t, change(func(r *veil.Report) { r.Words[0].Text = text }), api.ErrArg)
		holdFault(t, change(func(r *veil.Report) { r.Words[6].Text = text }), api.ErrArg)
	}
	for _, heads := range [][]int{{-1}, {100}, {math.MaxInt}, {math.MinInt}, {-1, 4}, {4, 100}, {3, 3}, {3, 2}, {1, 2, 3, 5, 4}, {0, 0}, {99, 99}, {5, 4, 3}} {
		holdFault(t, change(func(r *veil.Report) { r.Words[0].Heads = heads }), api.ErrArg)
		holdFault(t, change(func(r *veil.Report) { r.Words[6].Heads = heads }), api.ErrArg)
	}
	for _, o := range []veil.Order{
		order(-1, 2, 1, 1), order(math.MinInt, 2, 1, 1), order(2, 2, 1, 1), order(3, 2, 1, 1), order(0, 0, 1, 1), order(7, 7, 1, 1), order(7, 8, 1, 1),
		order(0, 8, 1, 1), order(6, 8, 1, 1), order(0, math.MaxInt, 1, 1), order(0, -1, 1, 1), order(math.MaxInt, math.MinInt, 1, 1), order(-2, -1, 1, 1),
		order(0, 1, -1, 1), order(0, 1, 8, 1), order(0, 1, math.MaxInt, 1), order(0, 1, 1, -1), order(0, 1, 1, api.MaxYear+1), order(0, 1, 1, math.MinInt),
	} {
		for i := range 3 {
			holdFault(t, change(func(r *veil.Report) { r.Orders[i] = o }), api.ErrArg)
		}
	}
	for _, columns := range []int{math.MinInt, -1, 0, api.MaxColumn + 1, 1000, math.MaxInt} {
		holdFault(t, change(func(r *veil.Report) { r.Columns = columns }), api.ErrArg)
		holdFault(t, veil.Report{Columns: columns}, api.ErrArg)
	}
	holdFault(t, veil.Report{Columns: 1, Orders: []veil.Order{order(0, 1, 0, 0)}}, api.ErrArg)
	holdFault(t, veil.Report{Columns: 1, Orders: []veil.Order{order(0, 0, 0, 0)}}, api.ErrArg)
}

// P9.1: readers who are refused, by each call, with a report that is valid.
func TestP9_1ReaderRefused(t *testing.T) {
	for _, x := range []veil.Reader{
		in(-1), in(math.MinInt), in(api.MaxYear + 1), in(math.MaxInt), in(-1, 1), in(1970, -1), in(1970, 8), in(1970, 0, 8), in(1970, -1, 0),
		in(1970, 2, 2), in(1970, 2, 1), in(1970, 0, 1, 2, 3, 4, 5, 6, 7, 7), in(1970, 0, 1, 2, 3, 4, 5, 6, 7, 8), in(1970, 0, 2, 1), in(1970, make([]int, 1000)...), in(1970, math.MaxInt),
	} {
		holdNothing(t, bern(), x, api.ErrRange)
		holdNothing(t, full(), x, api.ErrRange)
		holdNothing(t, veil.Report{Columns: 1}, x, api.ErrRange)
	}
	for _, x := range []veil.Reader{in(0), in(api.MaxYear), in(0, 0), in(0, 7), in(1980, 0, 1, 2, 3, 4, 5, 6, 7), in(api.MaxYear, 0, 1, 2, 3, 4, 5, 6, 7)} {
		holdAll(t, bern(), x)
		holdAll(t, full(), x)
		holdAll(t, veil.Report{Columns: 1}, x)
	}
	for kind := range api.MaxOrderKind + 1 {
		for other := range api.MaxOrderKind + 1 {
			if x := in(1970, kind, other); kind < other {
				holdAll(t, bern(), x)
			} else {
				holdNothing(t, bern(), x, api.ErrRange)
			}
		}
	}
}

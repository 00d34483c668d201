package veil_test

import (
	"slices"
	"testing"

	"palantype/api"
	"palantype/veil"
)

// holdAgree holds that Agree tells whether both reports agree, in either order.
func holdAgree(t *testing.T, a, b veil.Report, x veil.Reader, want bool) {
	t.Helper()
	if is, e := veil.Agree(a, b, x); is != want || e != api.OK {
		t.Fatalf("Agree of %v, %v, %v: %v, %v, not %v", a, b, x, is, e, want)
	}
	if is, e := veil.Agree(b, a, x); is != want || e != api.OK {
		t.Fatalf("Agree of %v, %v, %v: %v, %v, not %v", b, a, x, is, e, want)
	}
}

// P9.6: reports like that of the examples.
func TestP9_6Agree(t *testing.T) {
	// In the gap there is one word more, and another one; one order hides all of it.
	other := change(func(r *veil.Report) {
		r.Words = slices.Insert(r.Words, 4, word("king", 9))
		r.Words[3] = word("x")
		r.Orders = []veil.Order{order(3, 7, 4, 1990)}
	})
	for _, x := range []struct {
		reader veil.Reader
		want   bool
	}{{in(0), true}, {in(1970), true}, {in(1979), true}, {in(1980), false}, {in(1970, 4), false}, {in(1970, 1), false}, {in(1990), false}} {
		holdAgree(t, bern(), other, x.reader, x.want)
	}
	for _, x := range []struct {
		name           string
		change         func(r *veil.Report)
		in1970, in1990 bool
	}{
		{"nothing", func(r *veil.Report) {}, true, true},
		{"other orders", func(r *veil.Report) { r.Orders = []veil.Order{order(4, 6, 0, 1971), order(3, 5, 7, 1980)} }, true, true},
		{"an order that does not hold", func(r *veil.Report) { r.Orders = append(r.Orders, order(0, 7, 1, 1970)) }, true, true},
		{"no orders", func(r *veil.Report) { r.Orders = nil }, false, true},
		{"one order less", func(r *veil.Report) { r.Orders = r.Orders[:2] }, true, true},
		{"an order that hides more", func(r *veil.Report) { r.Orders[1].To = 7 }, false, true},
		{"an order that hides less", func(r *veil.Report) { r.Orders[0], r.Orders[2] = order(5, 6, 1, 1990), order(5, 6, 1, 1990) }, false, true},
		{"a text that is shown", func(r *veil.Report) { r.Words[1].Text = "saw" }, false, false},
		{"the last text", func(r *veil.Report) { r.Words[6].Text = "todaY" }, false, false},
		{"a text that is hidden", func(r *veil.Report) { r.Words[5].Text = "Rome" }, true, false},
		{"a head that is shown", func(r *veil.Report) { r.Words[6].Heads = []int{9} }, false, false},
		{"a head more", func(r *veil.Report) { r.Words[6].Heads = []int{8, 9} }, false, false},
		{"a head less", func(r *veil.Report) { r.Words[6].Heads = nil }, false, false},
		{"heads of another word", func(r *veil.Report) { r.Words[0].Heads = []int{8} }, false, false},
		{"a head that is hidden", func(r *veil.Report) { r.Words[3].Heads = []int{3} }, true, false},
		{"hidden heads of another word", func(r *veil.Report) { r.Words[3].Heads, r.Words[4].Heads = nil, []int{3, 5} }, true, false},
		{"Columns", func(r *veil.Report) { r.Columns = 4 }, false, false},
		{"Columns that hold all", func(r *veil.Report) { r.Columns = 20 }, false, false},
		{"a word less, at the end", func(r *veil.Report) { r.Words = r.Words[:6] }, false, false},
		{"a word less, ahead", func(r *veil.Report) {
			r.Words, r.Orders = r.Words[1:], []veil.Order{order(2, 5, 0, 1990)}
		}, false, false},
		{"a word less, in the gap", func(r *veil.Report) {
			r.Words, r.Orders = slices.Delete(r.Words, 4, 5), []veil.Order{order(3, 5, 0, 1990)}
		}, true, false},
		{"a word twice", func(r *veil.Report) { r.Words = append(r.Words, word("today", 8)) }, false, false},
		{"words exchanged", func(r *veil.Report) { r.Words[0], r.Words[1] = r.Words[1], r.Words[0] }, false, false},
		{"hidden words exchanged", func(r *veil.Report) { r.Words[3], r.Words[5] = r.Words[5], r.Words[3] }, true, false},
	} {
		r := change(x.change)
		if agreeOf(bern(), r, in(1970)) != x.in1970 || agreeOf(r, bern(), in(1990)) != x.in1990 {
			t.Fatalf("%s: %v", x.name, r)
		}
		holdAgree(t, bern(), r, in(1970), x.in1970)
		holdAgree(t, bern(), r, in(1990), x.in1990)
	}
}

// P9.6: gaps before, between and behind.
func TestP9_6AgreeGaps(t *testing.T) {
	hidden := func(text string, l ...[2]int) veil.Report {
		r := spoken(text, 5)
		for _, o := range l {
			r.Orders = append(r.Orders, order(o[0], o[1], 0, 1))
		}
		return r
	}
	for _, x := range []struct {
		a, b veil.Report
		want bool
	}{
		{hidden(""), hidden(""), true},
		{hidden(""), hidden("a", [2]int{0, 1}), false},
		{hidden("a", [2]int{0, 1}), hidden("b c d", [2]int{0, 3}), true},
		{hidden("a"), hidden("a b", [2]int{1, 2}), false},
		{hidden("a"), hidden("b a", [2]int{0, 1}), false},
		{hidden("a b", [2]int{1, 2}), hidden("b a", [2]int{0, 1}), false},
		{hidden("a b", [2]int{1, 2}), hidden("a c d", [2]int{1, 3}), true},
		{hidden("b a", [2]int{0, 1}), hidden("c d a", [2]int{0, 1}, [2]int{1, 2}), true},
		{hidden("a b c", [2]int{1, 2}), hidden("a c"), false},
		{hidden("a b c", [2]int{1, 2}), hidden("a c d", [2]int{2, 3}), false},
		{hidden("a b c", [2]int{1, 2}), hidden("a x y z c", [2]int{1, 4}), true},
		{hidden("a b c", [2]int{1, 2}), hidden("a x y z c", [2]int{1, 2}, [2]int{3, 4}), false},
		{hidden("a b c d", [2]int{1, 2}), hidden("a b c d", [2]int{2, 3}), false},
		{hidden("a b a b", [2]int{0, 1}), hidden("a b a b", [2]int{2, 3}), false},
		{hidden("a b", [2]int{0, 1}, [2]int{1, 2}), hidden("a b", [2]int{0, 2}), true},
		// Words that are one text together.
		{hidden("ab c"), hidden("a bc"), false},
		{hidden("ab"), hidden("a b"), false},
		{hidden("a"), hidden("aa"), false},
	} {
		holdAgree(t, x.a, x.b, in(0), x.want)
		for _, r := range []veil.Report{x.a, x.b} {
			holdAgree(t, r, r, in(0), true)
			thin := cloned(r)
			thin.Columns = 4
			holdAgree(t, r, thin, in(0), false)
		}
	}
}

// P9.6: reports that look the same, but do not agree.
func TestP9_6AgreeIsMore(t *testing.T) {
	here := veil.Report{Columns: 2, Words: []veil.Word{word("a", 1), word("b")}}
	there := veil.Report{Columns: 2, Words: []veil.Word{word("a"), word("b", 1)}}
	both := veil.Report{Columns: 2, Words: []veil.Word{word("a", 1), word("b", 1)}}
	wide := veil.Report{Columns: 3, Words: here.Words}
	all := []veil.Report{here, there, both, wide}
	for i, a := range all {
		for k, b := range all {
			holdLook(t, a, in(0), piece("a", 1), piece("b", 1))
			holdIndex(t, a, in(0), entry(1, 1))
			holdAgree(t, a, b, in(0), i == k)
		}
	}
}

// P9.6: heads that are nil, and those without elements.
func TestP9_6AgreeEmptyHeads(t *testing.T) {
	a := veil.Report{Columns: 1, Words: []veil.Word{{Text: "a", Heads: nil}}, Orders: []veil.Order{}}
	b := veil.Report{Columns: 1, Words: []veil.Word{{Text: "a", Heads: []int{}}}}
	holdAgree(t, a, b, in(0), true)
	holdAgree(t, veil.Report{Columns: 1}, veil.Report{Columns: 1, Words: []veil.Word{}}, in(0), true)
}

// P9.6: the errors, of the first report, of the second one, and of the reader.
func TestP9_6AgreeRefuses(t *testing.T) {
	arg := change(func(r *veil.Report) { r.Columns = 0 })
	limit := change(func(r *veil.Report) { r.Words = slices.Repeat(r.Words, 9) })
	reports := []struct {
		r veil.Report
		e api.Errno
	}{{bern(), api.OK}, {arg, api.ErrArg}, {limit, api.ErrLimit}}
	for _, a := range reports {
		for _, b := range reports {
			for _, x := range readers() {
				switch e := firstOf(a.e, b.e, faultOfReader(x)); e {
				case api.OK:
					holdAgree(t, a.r, b.r, x, true)
				default:
					holdNoAgree(t, a.r, b.r, x, e)
				}
			}
		}
	}
	// Reports that cannot agree are refused all the same.
	holdNoAgree(t, spoken("a", 1), change(func(r *veil.Report) { r.Orders[2].Until = -1 }), in(0), api.ErrArg)
	holdNoAgree(t, spoken("a", 1), long(61, 1), in(-1), api.ErrLimit)
	holdNoAgree(t, spoken("a", 1), spoken("b", 2), in(-1), api.ErrRange)
}

// smallReports are all reports of up to three words a and b, with or without a
// head, of which any are hidden in the year 0.
func smallReports() []veil.Report {
	var l []veil.Report
	for words := range 4 {
		for texts := range 1 << words {
			for hidden := range 1 << words {
				r := veil.Report{Columns: 1 + texts%2}
				for i := range words {
					r.Words = append(r.Words, word(string(rune('a'+texts>>i&1))))
					if hidden>>i&1 == 1 {
						r.Orders = append(r.Orders, order(i, i+1, 0, 1))
					}
				}
				l = append(l, r)
				if words > 0 {
					r = cloned(r)
					r.Words[hidden%words].Heads = []int{1}
					l = append(l, r)
				}
			}
		}
	}
	return l
}

// P9.6, with P9.7: all pairs of small reports.
func TestP9_6AgreeAllPairs(t *testing.T) {
	all := smallReports()
	agree := 0
	for _, a := range all {
		for _, b := range all {
			for _, x := range []veil.Reader{in(0), in(1)} {
				is, e := veil.Agree(a, b, x)
				if is != agreeOf(a, b, x) || e != api.OK {
					t.Fatalf("Agree of %v, %v, %v: %v, %v", a, b, x, is, e)
				}
				if is {
					holdLookSame(t, a, b, x)
					agree++
				}
			}
		}
	}
	if agree < 1000 {
		t.Errorf("%d of %d agree", agree, 2*len(all)*len(all))
	}
}

// P9.6: many reports, of which some agree, or nearly do.
func TestP9_6AgreeMany(t *testing.T) {
	d := dice(6)
	count := map[bool]int{}
	for range 6000 {
		x := d.reader(9)
		a := d.report(10, 6, 12)
		b := d.likeIt(a, x)
		holdAgree(t, a, b, x, true)
		switch d.roll(0, 3) {
		case 0:
			if len(b.Words) > 0 {
				b.Words[d.roll(0, len(b.Words)-1)] = d.words(1)[0]
			}
		case 1:
			if len(b.Orders) > 0 {
				b.Orders[d.roll(0, len(b.Orders)-1)] = d.orders(len(b.Words), 1, 12)[0]
			}
		case 2:
			b.Columns = d.roll(1, 6)
		case 3:
			x = d.reader(12)
		}
		want := agreeOf(a, b, x)
		holdAgree(t, a, b, x, want)
		count[want]++
	}
	if min(count[true], count[false]) < 1500 {
		t.Errorf("%v", count)
	}
}

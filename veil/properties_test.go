package veil_test

import (
	"slices"
	"testing"

	"palantype/api"
	"palantype/veil"
)

// look, index, find, closed, useless and fewest return what the calls do of a valid
// report and a valid reader.
func look(t *testing.T, r veil.Report, x veil.Reader) []veil.Piece {
	t.Helper()
	l, e := veil.Look(r, x)
	if e != api.OK {
		t.Fatalf("Look of %v, %v: %v", r, x, e)
	}
	return l
}

func index(t *testing.T, r veil.Report, x veil.Reader) []veil.Entry {
	t.Helper()
	l, e := veil.Index(r, x)
	if e != api.OK {
		t.Fatalf("Index of %v, %v: %v", r, x, e)
	}
	return l
}

// find returns the word of each piece of the view, or -1 of a gap.
func find(t *testing.T, r veil.Report, x veil.Reader) []int {
	t.Helper()
	var l []int
	for i, p := range look(t, r, x) {
		n, e := veil.Find(r, x, i)
		if (p.Text == "") != (e == api.ErrNone) || e != api.ErrNone && e != api.OK {
			t.Fatalf("Find of %v, %v, %d: %v, of %v", r, x, i, e, p)
		}
		if p.Text == "" {
			n = -1
		}
		l = append(l, n)
	}
	return l
}

func closed(t *testing.T, r veil.Report, x veil.Reader) []veil.Shut {
	t.Helper()
	l, e := veil.Closed(r, x)
	if e != api.OK {
		t.Fatalf("Closed of %v, %v: %v", r, x, e)
	}
	return l
}

func useless(t *testing.T, r veil.Report, x veil.Reader) []int {
	t.Helper()
	l, e := veil.Useless(r, x)
	if e != api.OK {
		t.Fatalf("Useless of %v, %v: %v", r, x, e)
	}
	return l
}

func fewest(t *testing.T, r veil.Report, x veil.Reader) int {
	t.Helper()
	n, e := veil.Fewest(r, x)
	if e != api.OK {
		t.Fatalf("Fewest of %v, %v: %v", r, x, e)
	}
	return n
}

// hiddenFrom returns the words that no piece of the view shows.
func hiddenFrom(t *testing.T, r veil.Report, x veil.Reader) []int {
	t.Helper()
	shown := find(t, r, x)
	var l []int
	for word := range r.Words {
		if !slices.Contains(shown, word) {
			l = append(l, word)
		}
	}
	return l
}

// holdLookSame holds that both reports look the same to the reader.
func holdLookSame(t *testing.T, a, b veil.Report, x veil.Reader) {
	t.Helper()
	if v, w := look(t, a, x), look(t, b, x); !slices.Equal(v, w) {
		t.Fatalf("Look of %v, %v: %v; of %v: %v", a, x, v, b, w)
	}
	if v, w := index(t, a, x), index(t, b, x); !sameIndex(v, w) {
		t.Fatalf("Index of %v, %v: %v; of %v: %v", a, x, v, b, w)
	}
}

// P9.7: reports that agree look the same: those that are made to, and those of few
// words that happen to.
func TestP9_7Agreeing(t *testing.T) {
	d := dice(7)
	longer := 0
	for range 4000 {
		a, x := d.report(10, 6, 12), d.reader(9)
		b := d.likeIt(a, x)
		holdAgree(t, a, b, x, true)
		holdLookSame(t, a, b, x)
		if len(hiddenFrom(t, a, x)) != len(hiddenFrom(t, b, x)) {
			longer++
		}
	}
	happen := 0
	for range 20000 {
		a, b, x := d.report(3, 3, 3), d.report(3, 3, 3), d.reader(3)
		b.Columns = a.Columns
		if is, e := veil.Agree(a, b, x); is && e == api.OK {
			holdLookSame(t, a, b, x)
			happen++
		}
	}
	if longer < 1500 || happen < 800 {
		t.Errorf("%d have longer or shorter gaps, %d happen to agree", longer, happen)
	}
}

// P9.8: each word that is not hidden is shown once, in its order; and there is one
// blank piece where words are hidden, in columns that are full but for the last one.
func TestP9_8ShownOnce(t *testing.T) {
	d := dice(8)
	last := map[bool]int{} // by whether the last column is full
	for range 3000 {
		r, x := d.report(40, 8, 9), d.reader(9)
		pieces, words := look(t, r, x), find(t, r, x)
		var want []int
		for word, hidden := range veilOf(r, x) {
			switch {
			case !hidden:
				want = append(want, word)
			case word == 0 || want[len(want)-1] != -1:
				want = append(want, -1)
			}
		}
		if !slices.Equal(words, want) {
			t.Fatalf("Find of %v, %v: %v, not %v", r, x, words, want)
		}
		for i, word := range words {
			if word >= 0 && pieces[i].Text != r.Words[word].Text {
				t.Fatalf("Look of %v, %v: %v, but it shows %d", r, x, pieces[i], word)
			}
		}
		holdFull(t, r, pieces)
		if len(pieces) > 0 {
			last[len(pieces)%r.Columns == 0]++
		}
	}
	if min(last[true], last[false]) < 500 {
		t.Errorf("%v have a full last column", last)
	}
}

// holdFull holds that columns follow each other from 1 on, and are full but for the
// last one.
func holdFull(t *testing.T, r veil.Report, pieces []veil.Piece) {
	t.Helper()
	count := make([]int, len(pieces)+2)
	for i, p := range pieces {
		if p.Column < 1 || p.Column > len(pieces) || i > 0 && p.Column < pieces[i-1].Column {
			t.Fatalf("%v has the pieces %v", r, pieces)
		}
		count[p.Column]++
	}
	for column := 1; column <= len(pieces); column++ {
		if count[column] > r.Columns || count[column+1] > 0 && count[column] != r.Columns {
			t.Fatalf("%v has the pieces %v", r, pieces)
		}
	}
}

// P9.8: a reader from whom nothing is hidden sees the whole report: without orders,
// late enough, or who may read all.
func TestP9_8WholeReport(t *testing.T) {
	d := dice(88)
	for range 2000 {
		r := d.report(api.MaxPrinted, api.MaxOrders, api.MaxYear)
		r.Columns = d.roll(1, api.MaxColumn)
		bare := cloned(r)
		bare.Orders = nil
		latest := 0
		for _, o := range r.Orders {
			latest = max(latest, o.Until)
		}
		for _, x := range []struct {
			r veil.Report
			x veil.Reader
		}{{bare, in(0)}, {r, in(latest)}, {r, in(0, 0, 1, 2, 3, 4, 5, 6, 7)}} {
			pieces := look(t, x.r, x.x)
			if len(pieces) != len(r.Words) || !slices.Equal(find(t, x.r, x.x), numbersTo(len(r.Words))) {
				t.Fatalf("Look of %v, %v: %v", x.r, x.x, pieces)
			}
			for i, p := range pieces {
				if p != piece(r.Words[i].Text, 1+i/r.Columns) {
					t.Fatalf("Look of %v, %v: %v is the piece %d", x.r, x.x, p, i)
				}
			}
		}
	}
}

// P9.9: each head of a word that is shown has an entry with its column, and no
// entry has anything else.
func TestP9_9Index(t *testing.T) {
	d := dice(9)
	entries, several, lost := 0, 0, 0
	for range 3000 {
		r, x := d.report(40, 8, 9), d.reader(9)
		words := find(t, r, x)
		columns := map[[2]int]bool{} // by head and column
		for i, p := range look(t, r, x) {
			if words[i] >= 0 {
				for _, head := range r.Words[words[i]].Heads {
					columns[[2]int{head, p.Column}] = true
				}
			}
		}
		before := -1
		for _, e := range index(t, r, x) {
			if e.Head <= before || len(e.Columns) == 0 || !rises(e.Columns, api.MaxPrinted) {
				t.Fatalf("Index of %v, %v: %v behind %d", r, x, e, before)
			}
			before = e.Head
			for _, column := range e.Columns {
				if !columns[[2]int{e.Head, column}] {
					t.Fatalf("Index of %v, %v: %v, but no such word in %d", r, x, e, column)
				}
				delete(columns, [2]int{e.Head, column})
			}
			entries++
			if len(e.Columns) > 1 {
				several++
			}
		}
		if len(columns) > 0 {
			t.Fatalf("Index of %v, %v: %v are missing", r, x, columns)
		}
		for _, word := range hiddenFrom(t, r, x) {
			for _, head := range r.Words[word].Heads {
				if !slices.ContainsFunc(index(t, r, x), func(e veil.Entry) bool { return e.Head == head }) {
					lost++
				}
			}
		}
	}
	if entries < 5000 || several < 2000 || lost < 500 {
		t.Errorf("%d entries, %d with several columns; %d heads are lost", entries, several, lost)
	}
}

// P9.10: in a later year, or with one kind more that one may read, no word is hidden
// that was not.
func TestP9_10Later(t *testing.T) {
	d := dice(10)
	opened := [2]int{}
	for range 3000 {
		r, x := d.report(20, 8, 12), d.reader(12)
		before := hiddenFrom(t, r, x)
		more := slices.Clone(x.May)
		if kind := d.roll(0, 7); !slices.Contains(more, kind) {
			more = append(more, kind)
			slices.Sort(more)
		}
		for i, other := range []veil.Reader{in(x.Year+d.roll(1, 4), x.May...), in(x.Year, more...)} {
			after := hiddenFrom(t, r, other)
			for _, word := range after {
				if !slices.Contains(before, word) {
					t.Fatalf("%v: %v are hidden from %v, but %v from %v", r, before, x, after, other)
				}
			}
			opened[i] += len(before) - len(after)
		}
	}
	if min(opened[0], opened[1]) < 500 {
		t.Errorf("%v are no longer hidden", opened)
	}
}

// P9.11: of what is shut some word is hidden until the year, and none of its words
// from then on.
func TestP9_11Opens(t *testing.T) {
	d := dice(11)
	stay := 0
	for range 1500 {
		r, x := d.report(20, 8, 30), d.reader(20)
		hidden := hiddenFrom(t, r, x)
		for _, s := range closed(t, r, x) {
			if s.Year <= x.Year || s.From >= s.To {
				t.Fatalf("Closed of %v, %v: %v", r, x, s)
			}
			inside := func(word int) bool { return s.From <= word && word < s.To }
			for year := x.Year; year < s.Year+3; year++ {
				still := slices.ContainsFunc(hiddenFrom(t, r, in(year, x.May...)), inside)
				if still != (year < s.Year) {
					t.Fatalf("Closed of %v, %v: %v, but in %d is hidden: %v", r, x, s, year, still)
				}
			}
			if slices.ContainsFunc(hiddenFrom(t, r, in(api.MaxYear, x.May...)), inside) {
				t.Fatalf("Closed of %v, %v: %v, but some of it is always hidden", r, x, s)
			}
			stay += s.Year - x.Year
			hidden = slices.DeleteFunc(hidden, inside)
		}
		if len(hidden) > 0 {
			t.Fatalf("Closed of %v, %v has not %v", r, x, hidden)
		}
	}
	if stay < 5000 {
		t.Errorf("what is shut stays so for %d years", stay)
	}
}

// P9.12: without an order that is useless the reader sees the same; without any
// other one that holds, the reader does not.
func TestP9_12WithoutUseless(t *testing.T) {
	d := dice(12)
	count := map[bool]int{}
	for range 2000 {
		r, x := d.report(16, 10, 12), d.reader(6)
		l := useless(t, r, x)
		if !slices.IsSorted(l) || len(slices.Compact(slices.Clone(l))) != len(l) {
			t.Fatalf("Useless of %v, %v: %v", r, x, l)
		}
		hold := holding(r, x)
		for _, i := range l {
			if !slices.Contains(hold, i) {
				t.Fatalf("Useless of %v, %v: %v, but %v hold", r, x, l, hold)
			}
		}
		for _, i := range hold {
			without := cloned(r)
			without.Orders = slices.Delete(without.Orders, i, i+1)
			is := slices.Contains(l, i)
			if is {
				holdLookSame(t, r, without, x)
			}
			if slices.Equal(find(t, r, x), find(t, without, x)) != is {
				t.Fatalf("Useless of %v, %v: %v, and %d is not as it says", r, x, l, i)
			}
			count[is]++
		}
	}
	if min(count[true], count[false]) < 1500 {
		t.Errorf("%v are useless", count)
	}
}

// P9.12: the fewest orders are at most all that hold; so many are enough, and fewer
// are not; and without all that hold nothing is hidden.
func TestP9_12Fewest(t *testing.T) {
	d := dice(112)
	less := 0
	for range 500 {
		r, x := d.report(16, 8, 12), d.reader(6)
		n, hold := fewest(t, r, x), holding(r, x)
		if n < 0 || n > len(hold) {
			t.Fatalf("Fewest of %v, %v: %v, but %v hold", r, x, n, hold)
		}
		hidden := hiddenFrom(t, r, x)
		found := false
		for set := range 1 << len(hold) {
			some := cloned(r)
			some.Orders = nil
			for i, at := range hold {
				if set>>i&1 == 1 {
					some.Orders = append(some.Orders, r.Orders[at])
				}
			}
			if len(some.Orders) > n || !slices.Equal(hiddenFrom(t, some, x), hidden) {
				continue
			}
			if len(some.Orders) < n {
				t.Fatalf("Fewest of %v, %v: %v, but %v are enough", r, x, n, some.Orders)
			}
			found = true
		}
		if !found {
			t.Fatalf("Fewest of %v, %v: %v, which are not enough", r, x, n)
		}
		without := cloned(r)
		without.Orders = nil
		for i, o := range r.Orders {
			if !slices.Contains(hold, i) {
				without.Orders = append(without.Orders, o)
			}
		}
		if l := hiddenFrom(t, without, x); len(l) > 0 || fewest(t, without, x) != 0 || (n == 0) != (len(hidden) == 0) {
			t.Fatalf("%v, %v: without those that hold %v are hidden", r, x, l)
		}
		less += len(hold) - n
	}
	if less < 300 {
		t.Errorf("%d fewer are needed", less)
	}
}

// P9.13: orders in another order make the same view, the same index, and the same
// that is shut.
func TestP9_13AnyOrder(t *testing.T) {
	d := dice(13)
	moved := 0
	for range 3000 {
		r, x := d.report(20, api.MaxOrders, 12), d.reader(9)
		other := cloned(r)
		mix(&d, other.Orders)
		holdLookSame(t, r, other, x)
		if a, b := closed(t, r, x), closed(t, other, x); !slices.Equal(a, b) {
			t.Fatalf("Closed of %v, %v: %v; of %v: %v", r, x, a, other, b)
		}
		if !slices.Equal(find(t, r, x), find(t, other, x)) || fewest(t, r, x) != fewest(t, other, x) || len(useless(t, r, x)) != len(useless(t, other, x)) {
			t.Fatalf("%v and %v are not the same to %v", r, other, x)
		}
		holdAgree(t, r, other, x, true)
		if !slices.Equal(r.Orders, other.Orders) {
			moved++
		}
	}
	if moved < 2000 {
		t.Errorf("%d have another order", moved)
	}
}

// P9.13: all orders of a list of four.
func TestP9_13AllOrders(t *testing.T) {
	r := spoken("a b c d e f g", 2, order(0, 2, 0, 5), order(1, 4, 1, 9), order(3, 5, 2, 7), order(6, 7, 1, 4))
	for i := range r.Words {
		r.Words[i].Heads = []int{i % 3, 5}
	}
	var put func(list, rest []veil.Order)
	put = func(list, rest []veil.Order) {
		for i, o := range rest {
			others := slices.Delete(slices.Clone(rest), i, i+1)
			put(append(slices.Clone(list), o), others)
		}
		if len(rest) > 0 {
			return
		}
		other := cloned(r)
		other.Orders = list
		for year := range 10 {
			for _, x := range []veil.Reader{in(year), in(year, 0), in(year, 1), in(year, 2), in(year, 0, 1)} {
				holdLookSame(t, r, other, x)
				holdClosed(t, other, x, closed(t, r, x)...)
			}
		}
	}
	put(nil, r.Orders)
}

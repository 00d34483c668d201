package veil_test

import (
	"math/bits"
	"slices"
	"strings"

	"palantype/api"
	"palantype/veil"
)

// This file says again what the chapter defines, as literally and slowly as
// can be; the tests hold the package against it.

// dice is a row of numbers that look thrown, and are the same in each run.
type dice uint64

// roll returns a number from lo to hi.
func (d *dice) roll(lo, hi int) int {
	*d = *d*6364136223846793005 + 1442695040888963407
	return lo + int(uint64(*d)>>33)%(hi-lo+1)
}

// one reports whether it is one time in so many.
func (d *dice) one(many int) bool { return d.roll(1, many) == 1 }

// mix deals out the elements of the list.
func mix[T any](d *dice, l []T) {
	for i := range l {
		k := d.roll(0, i)
		l[i], l[k] = l[k], l[i]
	}
}

func word(text string, heads ...int) veil.Word { return veil.Word{Text: text, Heads: heads} }

func order(from, to, kind, until int) veil.Order {
	return veil.Order{From: from, To: to, Kind: kind, Until: until}
}

func in(year int, may ...int) veil.Reader { return veil.Reader{Year: year, May: may} }

func piece(text string, column int) veil.Piece { return veil.Piece{Text: text, Column: column} }

func entry(head int, columns ...int) veil.Entry { return veil.Entry{Head: head, Columns: columns} }

func shut(from, to, year int) veil.Shut { return veil.Shut{From: from, To: to, Year: year} }

// bern is the report of the chapter's examples.
func bern() veil.Report {
	return veil.Report{
		Words:   []veil.Word{word("we"), word("met"), word("the"), word("envoy", 3, 5), word("in"), word("Bern", 5), word("today", 8)},
		Orders:  []veil.Order{order(3, 4, 1, 1990), order(4, 6, 2, 1980), order(5, 6, 1, 1975)},
		Columns: 3,
	}
}

// spoken is a report with the words of the text, which have no heads.
func spoken(text string, columns int, orders ...veil.Order) veil.Report {
	r := veil.Report{Columns: columns, Orders: orders}
	for _, w := range strings.Fields(text) {
		r.Words = append(r.Words, word(w))
	}
	return r
}

// long is a report of so many words: a, b, .. z, a, ..
func long(words, columns int, orders ...veil.Order) veil.Report {
	r := veil.Report{Columns: columns, Orders: orders}
	for i := range words {
		r.Words = append(r.Words, word(string(rune('a'+i%26))))
	}
	return r
}

// cloned returns a copy that shares no memory.
func cloned(r veil.Report) veil.Report {
	r.Words, r.Orders = slices.Clone(r.Words), slices.Clone(r.Orders)
	for i := range r.Words {
		r.Words[i].Heads = slices.Clone(r.Words[i].Heads)
	}
	return r
}

// rises says whether each number is from 0 to the most, and greater than the one
// ahead of it.
func rises(l []int, most int) bool {
	for i, n := range l {
		if n < 0 || n > most || i > 0 && n <= l[i-1] {
			return false
		}
	}
	return true
}

// faultOf says whether a report is valid.
func faultOf(r veil.Report) api.Errno {
	if len(r.Words) > 60 || len(r.Orders) > 12 {
		return api.ErrLimit
	}
	for _, w := range r.Words {
		if len(w.Heads) > 5 {
			return api.ErrLimit
		}
	}
	bad := r.Columns < 1 || r.Columns > 20
	for _, w := range r.Words {
		bad = bad || w.Text == "" || len(w.Text) > 20 || !rises(w.Heads, 99)
		for i := range len(w.Text) {
			bad = bad || w.Text[i] <= ' ' || w.Text[i] > '~'
		}
	}
	for _, o := range r.Orders {
		bad = bad || o.From < 0 || o.From >= o.To || o.To > len(r.Words) || o.Kind < 0 || o.Kind > 7 || o.Until < 0 || o.Until > 9999
	}
	if bad {
		return api.ErrArg
	}
	return api.OK
}

// faultOfReader says whether a reader is valid.
func faultOfReader(x veil.Reader) api.Errno {
	if x.Year < 0 || x.Year > 9999 || !rises(x.May, 7) {
		return api.ErrRange
	}
	return api.OK
}

// firstOf returns the first error of them, or OK.
func firstOf(codes ...api.Errno) api.Errno {
	for _, e := range codes {
		if e != api.OK {
			return e
		}
	}
	return api.OK
}

// holding returns the indexes of the orders that hold for the reader.
func holding(r veil.Report, x veil.Reader) []int {
	var l []int
	for i, o := range r.Orders {
		if x.Year < o.Until && !slices.Contains(x.May, o.Kind) {
			l = append(l, i)
		}
	}
	return l
}

// hides says whether the order hides the word, if it holds.
func hides(o veil.Order, word int) bool { return o.From <= word && word <= o.To-1 }

// isHidden says whether the word is hidden from the reader.
func isHidden(r veil.Report, x veil.Reader, word int) bool {
	return slices.ContainsFunc(holding(r, x), func(i int) bool { return hides(r.Orders[i], word) })
}

// veilOf says of each word whether it is hidden.
func veilOf(r veil.Report, x veil.Reader) []bool {
	var l []bool
	for word := range r.Words {
		l = append(l, isHidden(r, x, word))
	}
	return l
}

// gapsOf returns the ranges of words that are hidden, as longest runs: each range
// is looked at.
func gapsOf(r veil.Report, x veil.Reader) [][2]int {
	hidden := veilOf(r, x)
	var l [][2]int
	for from := range hidden {
		for to := from + 1; to <= len(hidden); to++ {
			run := !slices.Contains(hidden[from:to], false)
			longest := (from == 0 || !hidden[from-1]) && (to == len(hidden) || !hidden[to])
			if run && longest {
				l = append(l, [2]int{from, to})
			}
		}
	}
	return l
}

// shown has the pieces of a view, and of each the index of its word, or -1.
type shown struct {
	pieces []veil.Piece
	words  []int
}

// shownTo returns what the reader sees: the words that are not hidden, with -1 put
// in where a gap begins, are dealt into columns.
func shownTo(r veil.Report, x veil.Reader) shown {
	var s shown
	gaps := gapsOf(r, x)
	for word, hidden := range veilOf(r, x) {
		if !hidden {
			s.words = append(s.words, word)
		}
		if slices.ContainsFunc(gaps, func(g [2]int) bool { return g[0] == word }) {
			s.words = append(s.words, -1)
		}
	}
	column, room := 1, r.Columns
	for _, word := range s.words {
		if room == 0 {
			column, room = column+1, r.Columns
		}
		text := ""
		if word >= 0 {
			text = r.Words[word].Text
		}
		s.pieces = append(s.pieces, piece(text, column))
		room--
	}
	return s
}

// indexOf returns the index of the reader: each head that there may be is looked
// for in each column.
func indexOf(r veil.Report, x veil.Reader) []veil.Entry {
	s := shownTo(r, x)
	var l []veil.Entry
	for head := range 100 {
		var columns []int
		for column := 1; column <= len(s.pieces); column++ {
			for i, p := range s.pieces {
				if p.Column == column && s.words[i] >= 0 && slices.Contains(r.Words[s.words[i]].Heads, head) {
					columns = append(columns, column)
					break
				}
			}
		}
		if len(columns) > 0 {
			l = append(l, entry(head, columns...))
		}
	}
	return l
}

// sameIndex says whether both indexes are the same.
func sameIndex(a, b []veil.Entry) bool {
	return slices.EqualFunc(a, b, func(e, o veil.Entry) bool { return e.Head == o.Head && slices.Equal(e.Columns, o.Columns) })
}

// opens returns the least year from which on none of the words is hidden from a
// reader with the same May. What is hidden changes only in years until which some
// order hides; so only those are looked at, and the year 0.
func opens(r veil.Report, x veil.Reader, gap [2]int) int {
	years := []int{0}
	for _, o := range r.Orders {
		years = append(years, o.Until)
	}
	slices.Sort(years)
	slices.Reverse(years)
	least := -1
	for _, year := range years {
		if slices.Contains(veilOf(r, in(year, x.May...))[gap[0]:gap[1]], true) {
			break
		}
		least = year
	}
	return least
}

// closedOf returns what is shut to the reader.
func closedOf(r veil.Report, x veil.Reader) []veil.Shut {
	var l []veil.Shut
	for _, g := range gapsOf(r, x) {
		l = append(l, shut(g[0], g[1], opens(r, x, g)))
	}
	return l
}

// uselessOf returns the orders that are useless to the reader.
func uselessOf(r veil.Report, x veil.Reader) []int {
	hold := holding(r, x)
	var l []int
	for _, i := range hold {
		needed := false
		for word := r.Orders[i].From; word < r.Orders[i].To; word++ {
			if !slices.ContainsFunc(hold, func(k int) bool { return k != i && hides(r.Orders[k], word) }) {
				needed = true
			}
		}
		if !needed {
			l = append(l, i)
		}
	}
	return l
}

// fewestOf returns the fewest orders: all sets of those that hold are looked at.
func fewestOf(r veil.Report, x veil.Reader) int {
	hold := holding(r, x)
	var each []uint64
	all := uint64(0)
	for _, i := range hold {
		words := uint64(0)
		for word := range r.Words {
			if hides(r.Orders[i], word) {
				words |= 1 << word
			}
		}
		each, all = append(each, words), all|words
	}
	fewest := len(hold)
	for set := range uint(1) << len(hold) {
		words := uint64(0)
		for i := range hold {
			if set>>i&1 == 1 {
				words |= each[i]
			}
		}
		if words == all {
			fewest = min(fewest, bits.OnesCount(set))
		}
	}
	return fewest
}

// agreeOf says whether both reports agree for the reader: the words that are not
// hidden are looked at one behind the other, and whether words are hidden between.
func agreeOf(a, b veil.Report, x veil.Reader) bool {
	i, k := 0, 0
	for {
		from, other := i, k
		for i < len(a.Words) && isHidden(a, x, i) {
			i++
		}
		for k < len(b.Words) && isHidden(b, x, k) {
			k++
		}
		if (i > from) != (k > other) {
			return false
		}
		if i == len(a.Words) || k == len(b.Words) {
			return i == len(a.Words) && k == len(b.Words) && a.Columns == b.Columns
		}
		if a.Words[i].Text != b.Words[k].Text || !slices.Equal(a.Words[i].Heads, b.Words[k].Heads) {
			return false
		}
		i, k = i+1, k+1
	}
}

// rise throws rising numbers, at most so many, from 0 to the top.
func (d *dice) rise(most, top int) []int {
	var l []int
	for range d.roll(0, most) {
		l = append(l, d.roll(0, top))
	}
	slices.Sort(l)
	return slices.Compact(l)
}

// words throws words, of few texts and heads.
func (d *dice) words(count int) []veil.Word {
	var l []veil.Word
	for range count {
		l = append(l, word(string(rune('a'+d.roll(0, 5))), d.rise(d.roll(0, 3), 6)...))
	}
	return l
}

// orders throws orders that hide some of so many words, most of them few.
func (d *dice) orders(words, count, lastYear int) []veil.Order {
	var l []veil.Order
	for range count {
		if words == 0 {
			break
		}
		from := d.roll(0, words-1)
		to := min(words, from+d.roll(1, 4))
		if d.one(6) {
			to = d.roll(from+1, words)
		}
		l = append(l, order(from, to, d.roll(0, 7), d.roll(0, lastYear)))
	}
	return l
}

// report throws a valid report.
func (d *dice) report(words, orders, lastYear int) veil.Report {
	count := d.roll(0, words)
	return veil.Report{Words: d.words(count), Orders: d.orders(count, d.roll(0, orders), lastYear), Columns: d.roll(1, 6)}
}

// reader throws a valid reader.
func (d *dice) reader(lastYear int) veil.Reader {
	return in(d.roll(0, lastYear), d.rise(d.roll(0, 3), 7)...)
}

// likeIt throws a report that agrees with the other one for the reader, if that has
// at most 10 words: in the place of each gap there is another one, of other words,
// that one or two other orders hide; and there are some orders that do not hold.
func (d *dice) likeIt(r veil.Report, x veil.Reader) veil.Report {
	o := veil.Report{Columns: r.Columns}
	for _, at := range shownTo(r, x).words {
		if at >= 0 {
			o.Words = append(o.Words, r.Words[at])
			continue
		}
		from := len(o.Words)
		o.Words = append(o.Words, d.words(d.roll(1, 4))...)
		cut := d.roll(from+1, len(o.Words))
		o.Orders = append(o.Orders, order(from, cut, d.kindHidden(x), x.Year+d.roll(1, 9)))
		if cut < len(o.Words) {
			o.Orders = append(o.Orders, order(d.roll(from, cut), len(o.Words), d.kindHidden(x), x.Year+d.roll(1, 9)))
		}
	}
	for range d.roll(0, 2) {
		if len(o.Words) > 0 {
			from := d.roll(0, len(o.Words)-1)
			o.Orders = append(o.Orders, order(from, d.roll(from+1, len(o.Words)), d.roll(0, 7), d.roll(0, x.Year)))
		}
	}
	mix(d, o.Orders)
	return cloned(o)
}

// kindHidden throws a kind that the reader may not read; there has to be one.
func (d *dice) kindHidden(x veil.Reader) int {
	for {
		if kind := d.roll(0, 7); !slices.Contains(x.May, kind) {
			return kind
		}
	}
}

package veil

import (
	"iter"
	"maps"
	"slices"

	"palantype/api"
)

// noWord is the index of no word.
const noWord = -1

// veil has a flag for each word that a report may have: whether it is hidden.
type veil [api.MaxPrinted]bool

// veilBy returns which words are hidden by those of the orders that hold.
func veilBy(orders []Order, hold func(Order) bool) veil {
	var hidden veil
	for _, o := range orders {
		if !hold(o) {
			continue
		}
		for word := o.From; word < o.To; word++ {
			hidden[word] = true
		}
	}
	return hidden
}

// begins reports whether the word is the first one of a gap.
func (v veil) begins(word int) bool { return v[word] && (word == 0 || !v[word-1]) }

// holds reports whether the order holds for the reader.
func (x Reader) holds(o Order) bool { return x.Year < o.Until && !slices.Contains(x.May, o.Kind) }

// sight is a reader before a report, both valid, with the reader's veil.
type sight struct {
	Report
	Reader
	hidden veil
}

// sightOf returns the reader before the report.
func sightOf(r Report, x Reader) sight { return sight{r, x, veilBy(r.Orders, x.holds)} }

// told returns what is told of the reader before the report, or the first error of
// both.
func told[T any](r Report, x Reader, tell func(sight) T) (answer T, e api.Errno) {
	if e = firstFault(x, r); e == api.OK {
		answer = tell(sightOf(r, x))
	}
	return answer, e
}

// pieces gives the pieces of the view, each with the word that it shows. A gap is
// given where it begins, so that nothing behind it depends on how long it is.
func (s sight) pieces() iter.Seq2[Piece, int] {
	return func(yield func(Piece, int) bool) {
		number := 0
		for word, w := range s.Words {
			piece, shown := Piece{w.Text, number/s.Columns + 1}, word
			switch {
			case s.hidden.begins(word):
				piece.Text, shown = "", noWord
			case s.hidden[word]:
				continue
			}
			if !yield(piece, shown) {
				return
			}
			number++
		}
	}
}

// view returns the pieces of the view.
func (s sight) view() []Piece {
	var list []Piece
	for piece := range s.pieces() {
		list = append(list, piece)
	}
	return list
}

// index returns the entries of all heads that words have which are shown. Columns
// do not fall from piece to piece, so that those of an entry rise.
func (s sight) index() []Entry {
	columns := map[int][]int{}
	for piece, word := range s.pieces() {
		if word == noWord {
			continue
		}
		for _, head := range s.Words[word].Heads {
			if !slices.Contains(columns[head], piece.Column) {
				columns[head] = append(columns[head], piece.Column)
			}
		}
	}
	var list []Entry
	for _, head := range slices.Sorted(maps.Keys(columns)) {
		list = append(list, Entry{head, columns[head]})
	}
	return list
}

// wordOf returns the word that the piece with the number shows, or noWord if that
// is a gap, or there is none.
func (s sight) wordOf(number int) int {
	found, at := noWord, 0
search:
	for _, word := range s.pieces() {
		if at == number {
			found = word
			break search
		}
		at++
	}
	return found
}

// glimpse is a piece with the Heads of the word that it shows; a gap has none.
type glimpse struct {
	Piece
	heads []int
}

// same reports whether nothing tells the one from the other.
func (g glimpse) same(o glimpse) bool { return g.Piece == o.Piece && slices.Equal(g.heads, o.heads) }

// glimpses returns the pieces of the view, with what is known of their words.
func (s sight) glimpses() []glimpse {
	var list []glimpse
	for piece, word := range s.pieces() {
		g := glimpse{Piece: piece}
		if word != noWord {
			g.heads = s.Words[word].Heads
		}
		list = append(list, g)
	}
	return list
}

// agrees reports whether both reports agree for the reader. Only a gap has a piece
// without a text; so pieces are the same just if the words are, with gaps between
// the same of them.
func (s sight) agrees(o sight) bool {
	return s.Columns == o.Columns && slices.EqualFunc(s.glimpses(), o.glimpses(), glimpse.same)
}

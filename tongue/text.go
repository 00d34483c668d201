package tongue

import (
	"math/bits"
	"slices"

	"palantype/api"
)

// wordBits is how many marks a word of marks has.
const wordBits = 64

// marks has a bit for each mark that there may be.
type marks [api.MaxMark/wordBits + 1]uint64

// apart returns how many marks only one of both has.
func (m marks) apart(o marks) int {
	count := 0
	for i := range m {
		count += bits.OnesCount64(m[i] ^ o[i])
	}
	return count
}

// sentences follow each other in a text.
type sentences []Sentence

// marks returns the marks of all sentences, each once.
func (l sentences) marks() marks {
	var all marks
	for _, s := range l {
		for _, m := range s.Marks {
			all[m/wordBits] |= 1 << (m % wordBits)
		}
	}
	return all
}

// size returns the sum of the Sizes.
func (l sentences) size() int {
	sum := 0
	for _, s := range l {
		sum += s.Size
	}
	return sum
}

// text is a text that is matched, or a part of it: its sentences, and which one of
// the whole text the first of them is.
type text struct {
	sentences
	first Piece
}

// part returns so many sentences of the text.
func (t text) part(from, count int) text {
	return text{t.sentences[from : from+count], Piece{t.first.Side, t.first.Index + from}}
}

// end returns the Index of the sentence behind the part.
func (t text) end() int { return t.first.Index + len(t.sentences) }

// pieces returns all sentences as pieces.
func (t text) pieces() []Piece {
	var list []Piece
	for index := t.first.Index; index < t.end(); index++ {
		list = append(list, Piece{t.first.Side, index})
	}
	return list
}

// backwards returns the text with its sentences from the last one to the first.
func (t text) backwards() text {
	list := slices.Clone(t.sentences)
	slices.Reverse(list)
	return text{list, t.first}
}

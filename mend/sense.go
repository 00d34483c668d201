package mend

import (
	"iter"
	"slices"
	"strconv"

	"palantype/api"
)

// reading tells what texts mean, and what that may become.
type reading struct {
	marks map[string]Mark // of the texts in the lexicon
	swaps []Swap
}

// words gives the texts in the lexicon, with what they mean.
func words(l Lexicon) iter.Seq2[string, Mark] {
	return func(yield func(string, Mark) bool) {
		for _, n := range l.Numbers {
			if !yield(n.Text, Mark{KindNumber, n.Value}) {
				return
			}
		}
		for i, name := range l.Names {
			for _, text := range name {
				if !yield(text, Mark{KindName, i}) {
					return
				}
			}
		}
		for _, text := range l.Nots {
			if !yield(text, Mark{Kind: KindNot}) {
				return
			}
		}
	}
}

// read returns the reading by the lexicon, with the swaps that are allowed.
func read(l Lexicon, swaps []Swap) (v reading, e api.Errno) {
	if !validLexicon(l) {
		return reading{}, api.ErrArg
	}
	marks := map[string]Mark{}
	for text, mark := range words(l) {
		if _, twice := marks[text]; twice {
			return reading{}, api.ErrTwice
		}
		marks[text] = mark
	}
	if len(swaps) > api.MaxSwaps {
		return reading{}, api.ErrLimit
	}
	if !all(swaps, validSwap) {
		return reading{}, api.ErrArg
	}
	return reading{marks, swaps}, api.OK
}

// mark returns what a text means, if it means something.
func (v reading) mark(text string) (m Mark, means bool) {
	if m, means = v.marks[text]; means {
		return m, true
	}
	// What is written as Itoa writes it has neither a sign nor zeros ahead.
	value, err := strconv.Atoi(text)
	if err != nil || !validValue(value) || strconv.Itoa(value) != text {
		return Mark{}, false
	}
	return Mark{KindNumber, value}, true
}

// sense returns the sense of the texts.
func (v reading) sense(texts []string) []Mark {
	var marks []Mark
	for _, text := range texts {
		if m, means := v.mark(text); means {
			marks = append(marks, m)
		}
	}
	return marks
}

// may reports whether the old mark may become the new one.
func (v reading) may(old, new Mark) bool {
	return old == new || old.Kind == new.Kind && slices.Contains(v.swaps, Swap{old.Kind, old.Value, new.Value})
}

// keeps reports whether the sense of the old texts may become that of the new
// ones.
func (v reading) keeps(old, new []string) bool {
	return slices.EqualFunc(v.sense(old), v.sense(new), v.may)
}

// trouble returns the trouble between both rows of marks. The table's row i has
// in its column k the trouble between the first i old marks and the first k new
// ones. A row needs none of the others but the last one.
func (v reading) trouble(old, new []Mark) int {
	rows := [2][]int{make([]int, len(new)+1), make([]int, len(new)+1)}
	for k := range rows[0] {
		rows[0][k] = k
	}
	for i, from := range old {
		last, row := rows[i%2], rows[(i+1)%2]
		row[0] = i + 1
		for k, to := range new {
			replaced := last[k]
			if !v.may(from, to) {
				replaced++
			}
			row[k+1] = min(replaced, last[k+1]+1, row[k]+1)
		}
	}
	return rows[len(old)%2][len(new)]
}

package tongue

import (
	"palantype/api"
)

// match is a match of two texts, with what each of its steps takes.
type match struct {
	pair
	moves []move
}

// matchOf returns the match of both texts by the steps, or the first error.
func matchOf(left, right sentences, steps []Step) (match, api.Errno) {
	p, e := pairOf(left, right)
	if e != api.OK {
		return match{}, e
	}
	var at place
	var moves []move
	for _, s := range steps {
		m, found := p.take(at, s)
		if !found {
			return match{}, api.ErrFail
		}
		moves = append(moves, m)
		at = m.behind()
	}
	if at != p.end() {
		return match{}, api.ErrFail
	}
	return match{p, moves}, api.OK
}

// take returns the step as it is taken at the place, and whether it may come next.
func (p pair) take(at place, s Step) (move, bool) {
	for m := range p.next(at) {
		if m.Step == s {
			return m, true
		}
	}
	return move{}, false
}

// cost returns what all steps cost.
func (m match) cost() int {
	sum := 0
	for _, x := range m.moves {
		sum += m.price(x)
	}
	return sum
}

// differences returns the indexes of the steps of which one side alone has some
// mark.
func (m match) differences() []int {
	var list []int
	for i, x := range m.moves {
		if x.apart() > 0 {
			list = append(list, i)
		}
	}
	return list
}

// counting returns the report that counts, with a Lead for each left sentence.
func (m match) counting(lead []bool) []Piece {
	var report []Piece
	for _, x := range m.moves {
		side := x.right
		if x.Left > 0 && (x.Right == 0 || lead[x.left.first.Index]) {
			side = x.left
		}
		report = append(report, side.pieces()...)
	}
	return report
}

// level returns the line at which each step begins, and how many lines there are,
// and how many of them are blank on either side.
func (m match) level() (begins []int, lines, blank int) {
	for _, x := range m.moves {
		begins = append(begins, lines)
		left, right := x.left.size(), x.right.size()
		longer := max(left, right)
		lines += longer
		blank += longer - left + longer - right
	}
	return begins, lines, blank
}

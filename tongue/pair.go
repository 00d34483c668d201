package tongue

import (
	"iter"
	"slices"

	"palantype/api"
)

// place is behind so many sentences of both texts.
type place struct{ left, right int }

// move is a step that is taken: with the sentences of both its sides.
type move struct {
	Step
	left, right text
}

// behind returns the place to which the step comes.
func (m move) behind() place { return place{m.left.end(), m.right.end()} }

// apart returns how many marks only one side has.
func (m move) apart() int { return m.left.marks().apart(m.right.marks()) }

// charge is a part of what a step costs: so much, as many times as is told.
type charge struct {
	cost  int
	times func(move) int
}

// charges returns all that a step may cost. No step has none on both sides, or two
// on both.
func charges() []charge {
	sidesOf := func(sentences int) func(move) int {
		return func(m move) int {
			sides := 0
			for _, count := range []int{m.Left, m.Right} {
				if count == sentences {
					sides++
				}
			}
			return sides
		}
	}
	return []charge{{2, move.apart}, {3, sidesOf(0)}, {1, sidesOf(2)}}
}

// pair has two texts that are matched, and what a step costs there.
type pair struct {
	left, right text
	charges     []charge
}

// pairOf returns the pair of both texts, or their error.
func pairOf(left, right sentences) (pair, api.Errno) {
	if e := fault(left, right); e != api.OK {
		return pair{}, e
	}
	return pair{text{left, Piece{Side: 0}}, text{right, Piece{Side: 1}}, charges()}, api.OK
}

// end returns the place behind all sentences.
func (p pair) end() place { return place{p.left.end(), p.right.end()} }

// places gives all places; those to which steps come from a place are ahead of it.
func (p pair) places() iter.Seq[place] {
	return func(yield func(place) bool) {
		for left := p.end().left; left >= 0; left-- {
			for right := p.end().right; right >= 0; right-- {
				if !yield(place{left, right}) {
					return
				}
			}
		}
	}
}

// next gives the steps that may come next, at a place. The least one is the first.
func (p pair) next(at place) iter.Seq[move] {
	return func(yield func(move) bool) {
		end := p.end()
		for _, s := range []Step{{2, 1}, {1, 2}, {1, 1}, {1, 0}, {0, 1}} {
			if at.left+s.Left > end.left || at.right+s.Right > end.right {
				continue
			}
			if !yield(move{s, p.left.part(at.left, s.Left), p.right.part(at.right, s.Right)}) {
				return
			}
		}
	}
}

// price returns what the step costs.
func (p pair) price(m move) int {
	sum := 0
	for _, c := range p.charges {
		sum += c.cost * c.times(m)
	}
	return sum
}

// least returns the least number; where there is none, nothing is left to pay.
func least(numbers ...int) int {
	if len(numbers) == 0 {
		return 0
	}
	return slices.Min(numbers)
}

// rests returns, for each place, the least cost of all steps from there to the end.
func (p pair) rests() map[place]int {
	table := map[place]int{}
	for at := range p.places() {
		var costs []int
		for m := range p.next(at) {
			costs = append(costs, p.price(m)+table[m.behind()])
		}
		table[at] = least(costs...)
	}
	return table
}

// best returns the best match, and its cost. As the table was made from the end,
// the match is followed back from the first place on; so the first step by which
// best matches differ is chosen ahead of those behind it.
func (p pair) best() ([]Step, int) {
	table := p.rests()
	var steps []Step
	var follow func(at place)
	follow = func(at place) {
		for m := range p.next(at) {
			if p.price(m)+table[m.behind()] == table[at] {
				steps = append(steps, m.Step)
				follow(m.behind())
				return
			}
		}
	}
	follow(place{})
	return steps, table[place{}]
}

// halves returns the table of the least costs of matches of the first so many
// sentences. Read backwards, these are the last ones; and a step costs the same.
func (p pair) halves() Table {
	end := p.end()
	rests := pair{p.left.backwards(), p.right.backwards(), p.charges}.rests()
	table := make(Table, end.left+1)
	for left := range table {
		table[left] = make([]int, end.right+1)
		for right := range table[left] {
			table[left][right] = rests[place{end.left - left, end.right - right}]
		}
	}
	return table
}

// covers reports whether the table has a number for each place, as a cost may be,
// and no others.
func (p pair) covers(t Table) bool {
	end := p.end()
	return len(t) == end.left+1 && all(t, func(row []int) bool {
		return len(row) == end.right+1 && all(row, func(n int) bool { return within(n, 0, api.MaxCost) })
	})
}

// proves reports whether the table, which has a number for each place, is right,
// and its last number is the cost.
func (p pair) proves(t Table, cost int) bool {
	number := func(at place) int { return t[at.left][at.right] }
	for at := range p.places() {
		for m := range p.next(at) {
			if number(m.behind()) > number(at)+p.price(m) {
				return false
			}
		}
	}
	return number(place{}) == 0 && number(p.end()) == cost
}

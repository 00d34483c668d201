package paper

import (
	"iter"
	"slices"

	"palantype/api"
)

// tree is a valid motion, as it is looked through: its papers by their Numbers,
// with the motion at the root; the papers in their order; and all pairs that
// clash.
type tree struct {
	papers   map[int]Paper
	ordered  []Paper
	clashing map[Pair]bool
}

// read returns the tree of the motion, or the error of the motion.
func read(m Motion) (tree, api.Errno) {
	if e := checkMotion(m); e != api.OK {
		return tree{}, e
	}
	return tree{m.byNumber(), m.ordered(), m.clashing()}, api.OK
}

// rule returns the order by the first of the differences, or if that is 0, by
// the next one, and so on.
func rule[T any](differences ...func(a, b T) int) func(a, b T) int {
	return func(a, b T) int {
		for _, difference := range differences {
			if n := difference(a, b); n != 0 {
				return n
			}
		}
		return 0
	}
}

// ordered returns the papers in the order in which those stand that amend the
// same.
func (m Motion) ordered() []Paper {
	byFrom := func(a, b Paper) int { return a.From - b.From }
	byTo := func(a, b Paper) int { return a.To - b.To }
	byNumber := func(a, b Paper) int { return a.Number - b.Number }
	return slices.SortedFunc(slices.Values(m.Papers), rule(byFrom, byTo, byNumber))
}

// amending gives the papers that amend the one with the Number, in their order.
func (t tree) amending(number int) iter.Seq[Paper] {
	return func(yield func(Paper) bool) {
		for _, p := range t.ordered {
			if p.Of == number && !yield(p) {
				return
			}
		}
	}
}

// order returns the Numbers of the papers in the order of call.
func (t tree) order() []int {
	var numbers []int
	var call func(of int)
	call = func(of int) {
		for p := range t.amending(of) {
			call(p.Number)
			numbers = append(numbers, p.Number)
		}
	}
	call(root)
	return numbers
}

// page is a paper at work, which is written out: its words before next are in the
// text, or others in their place.
type page struct {
	Paper
	next int
}

// text returns the text by a choice, and the origins of its words. As no papers
// of a choice clash, each one begins where those before it have ended, or behind.
func (t tree) text(choice []int) (words []string, origins []Origin) {
	var write func(Paper)
	write = func(p Paper) {
		at := page{Paper: p}
		keep := func(end int) {
			for ; at.next < end; at.next++ {
				words = append(words, at.Words[at.next])
				origins = append(origins, Origin{at.Number, at.next})
			}
		}
		for q := range t.amending(at.Number) {
			if slices.Contains(choice, q.Number) {
				keep(q.From)
				write(q)
				at.next = q.To
			}
		}
		keep(len(at.Words))
	}
	write(t.papers[root])
	return words, origins
}

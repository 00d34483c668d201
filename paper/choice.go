package paper

import (
	"iter"
	"maps"
	"slices"

	"palantype/api"
)

// clashes reports whether both papers clash.
func (p Paper) clashes(o Paper) bool {
	return p.Of == o.Of && p.From < o.To && o.From < p.To
}

// clashing returns all pairs of papers that clash.
func (m Motion) clashing() map[Pair]bool {
	pairs := map[Pair]bool{}
	for _, p := range m.Papers {
		for _, o := range m.Papers {
			if p.Number < o.Number && p.clashes(o) {
				pairs[Pair{p.Number, o.Number}] = true
			}
		}
	}
	return pairs
}

// pairs returns the pairs that clash, by rising A, and then by rising B.
func (t tree) pairs() []Pair {
	byA := func(a, b Pair) int { return a.A - b.A }
	byB := func(a, b Pair) int { return a.B - b.B }
	return slices.SortedFunc(maps.Keys(t.clashing), rule(byA, byB))
}

// check returns why the list is not a choice, or OK.
func (t tree) check(list []int) api.Errno {
	switch {
	case !t.has(list):
		return api.ErrRange
	case !t.rooted(list):
		return api.ErrGap
	case t.divided(list):
		return api.ErrFail
	}
	return api.OK
}

// has reports whether these are Numbers of papers, and rise.
func (t tree) has(list []int) bool {
	last := root // which is less than all Numbers
	return all(list, func(number int) bool {
		rises := last < number
		last = number
		_, found := t.papers[number]
		return rises && found
	})
}

// rooted reports whether with each of the papers there is what it amends.
func (t tree) rooted(list []int) bool {
	return all(list, func(number int) bool {
		of := t.papers[number].Of
		return of == root || slices.Contains(list, of)
	})
}

// divided reports whether two of the papers clash. Their Numbers rise.
func (t tree) divided(list []int) bool {
	for i, a := range list {
		for _, b := range list[i+1:] {
			if t.clashing[Pair{a, b}] {
				return true
			}
		}
	}
	return false
}

// choices gives all choices. There are so few papers that each set of them is
// tried.
func (t tree) choices() iter.Seq[[]int] {
	numbers := slices.Sorted(maps.Keys(t.papers))[1:] // without the root
	return func(yield func([]int) bool) {
		for set := range 1 << len(numbers) {
			var list []int
			for i, number := range numbers {
				if set>>i&1 == 1 {
					list = append(list, number)
				}
			}
			if t.check(list) == api.OK && !yield(list) {
				return
			}
		}
	}
}

// largest returns the largest choice. There is one, as nothing is a choice too.
func (t tree) largest() []int {
	byCount := func(a, b []int) int { return len(b) - len(a) }
	return slices.MinFunc(slices.Collect(t.choices()), rule(byCount, slices.Compare[[]int]))
}

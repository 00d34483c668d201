package tally

import (
	"maps"
	"slices"
)

// rangeOf returns the range from the least to the greatest one of the numbers, of
// which there are some.
func rangeOf(numbers ...int) Range { return Range{slices.Min(numbers), slices.Max(numbers)} }

// possible returns the numbers of all truths. Many truths have the same ones.
func (v view) possible() map[Numbers]bool {
	found := map[Numbers]bool{}
	for truth := range v.truths() {
		found[v.numbers(truth)] = true
	}
	return found
}

// bounds returns the ranges of the numbers of all truths.
func (v view) bounds() (ayes, noes Range) {
	var allAyes, allNoes []int
	for n := range v.possible() {
		allAyes, allNoes = append(allAyes, n.Ayes), append(allNoes, n.Noes)
	}
	return rangeOf(allAyes...), rangeOf(allNoes...)
}

// allowed returns the outcomes of all truths, rising.
func (v view) allowed() []uint8 {
	found := map[uint8]bool{}
	for n := range v.possible() {
		found[v.outcome(n)] = true
	}
	return slices.Sorted(maps.Keys(found))
}

// witness returns the least truth with the outcome, and whether there is one.
func (v view) witness(outcome uint8) ([]uint8, bool) {
	for truth := range v.truths() {
		if v.outcome(v.numbers(truth)) == outcome {
			return slices.Clone(truth[:v.Members]), true
		}
	}
	return nil, false
}

// decide reports whether these members decide. They do not as soon as two truths
// in which they have the same votes have different outcomes.
func (v view) decide(members []int) bool {
	outcomes, decide := map[votes]uint8{}, true // by the votes of these members
search:
	for truth := range v.truths() {
		asked, outcome := truth.of(members), v.outcome(v.numbers(truth))
		switch before, met := outcomes[asked]; {
		case !met:
			outcomes[asked] = outcome
		case before != outcome:
			decide = false
			break search
		}
	}
	return decide
}

// question returns the least question. Each member may have any of its votes,
// whatever the others have; so there is a way from each truth to each other one on
// which the members who differ change their votes one by one. Hence some members
// decide just if nobody else can change the outcome alone. So those who can are
// the only least question: without one of them, not even all other doubtful
// members decide.
func (v view) question() []int {
	doubts := v.doubts()
	var list []int
	for _, member := range doubts {
		others := slices.DeleteFunc(slices.Clone(doubts), func(m int) bool { return m == member })
		if !v.decide(others) {
			list = append(list, member)
		}
	}
	return list
}

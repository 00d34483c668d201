package index

import (
	"slices"

	"palantype/api"
)

// spot is a volume, and a column of it.
type spot [2]int

// valid reports whether there can be such a column.
func (s spot) valid() bool {
	return within(s[0], 1, api.MaxVolumes) && within(s[1], 1, api.MaxCol)
}

// inOrder compares spots by their volumes, and then by their columns.
func (s spot) inOrder(other spot) int { return slices.Compare(s[:], other[:]) }

// first returns the first column of the place, and last the last one.
func (p Place) first() spot { return spot{p.Volume, p.From} }
func (p Place) last() spot  { return spot{p.Volume, p.To} }

// valid reports whether the place is as it has to be.
func (p Place) valid() bool { return p.first().valid() && p.last().valid() && p.From <= p.To }

// has reports whether the place has the column.
func (p Place) has(s spot) bool { return p.Volume == s[0] && within(s[1], p.From, p.To) }

// meets reports whether a place that begins no earlier overlaps with this one, or
// stands beside it.
func (p Place) meets(other Place) bool { return p.Volume == other.Volume && other.From <= p.To+1 }

// united returns the places in order with just the columns of these, which are valid.
func united(places []Place) []Place {
	var list []Place
	for _, p := range sorted(places, func(p, q Place) int { return p.first().inOrder(q.first()) }) {
		if last := len(list) - 1; last >= 0 && list[last].meets(p) {
			list[last].To = max(list[last].To, p.To)
		} else {
			list = append(list, p)
		}
	}
	return list
}

// areInOrder reports whether the places, which are valid, are in order: if they are, to
// unite them changes nothing.
func areInOrder(places []Place) bool { return slices.Equal(places, united(places)) }

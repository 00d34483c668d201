package floor

import (
	"iter"
	"math/bits"
	"slices"

	"palantype/api"
)

// nobody stands where a person could.
const nobody = -1

// within reports whether n is from lo to hi.
func within(n, lo, hi int) bool { return lo <= n && n <= hi }

// all reports whether each element of the list fits.
func all[T any](list []T, fits func(T) bool) bool {
	return !slices.ContainsFunc(list, func(x T) bool { return !fits(x) })
}

// bit returns the set of this person, or of nobody, alone.
func bit(who int) uint16 {
	if who == nobody {
		return Nobody
	}
	return 1 << who
}

// members gives the persons of a set, rising, and at the end nobody, if that is
// in it.
func members(set uint16) iter.Seq[int] {
	return func(yield func(int) bool) {
		for rest := set &^ Nobody; rest != 0; rest &= rest - 1 {
			if !yield(bits.TrailingZeros16(rest)) {
				return
			}
		}
		if set&Nobody != 0 {
			yield(nobody)
		}
	}
}

// first returns the first of the members of a set that has some.
func first(set uint16) int {
	for who := range members(set) {
		return who
	}
	return nobody
}

// others returns those persons of the set who are not the holder.
func others(heard uint16, holder int) uint16 {
	return heard &^ (bit(holder) | Nobody)
}

// valid reports whether the scene is as it has to be, but for the number of its
// moments.
func valid(s Scene) bool {
	if !within(s.Persons, 1, api.MaxPersons) || !within(s.Most, 1, api.MaxTurn) || !within(s.Least, 1, s.Most) || !within(s.Short, 0, api.MaxTurn) {
		return false
	}
	known := Nobody | (1<<s.Persons - 1)
	return all(s.Moments, func(m Moment) bool { return (m.Floor|m.Heard)&^known == 0 })
}

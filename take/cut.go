package take

import (
	"iter"

	"palantype/api"
)

// within reports whether n is from lo to hi.
func within(n, lo, hi int) bool { return lo <= n && n <= hi }

// every reports whether each element of the list fits, at its index.
func every[T any](list []T, fits func(i int, x T) bool) bool {
	for i, x := range list {
		if !fits(i, x) {
			return false
		}
	}
	return true
}

// sum returns what the numbers are together.
func sum(numbers ...int) int {
	all := 0
	for _, n := range numbers {
		all += n
	}
	return all
}

// validSitting reports whether the sitting is as it has to be, but for the
// number of its takes.
func validSitting(s Sitting) bool {
	if !within(s.Length, 1, api.MaxLength) || !within(s.Long, 1, api.MaxLong) || !within(s.Short, 1, s.Long) {
		return false
	}
	return every(s.Pauses, func(i int, p Span) bool {
		if i > 0 && p.From <= s.Pauses[i-1].To {
			return false
		}
		return 0 <= p.From && p.From < p.To && p.To <= s.Length
	})
}

// stretches gives the stretches of a valid sitting, one after the other.
func stretches(s Sitting) iter.Seq[Span] {
	return func(yield func(Span) bool) {
		from := 0
		for _, p := range s.Pauses {
			if from < p.From && !yield(Span{from, p.From}) {
				return
			}
			from = p.To
		}
		if from < s.Length {
			yield(Span{from, s.Length})
		}
	}
}

// pieces gives the takes of a valid sitting, one after the other.
func pieces(s Sitting) iter.Seq[Span] {
	return func(yield func(Span) bool) {
		for stretch := range stretches(s) {
			for from := stretch.From; from < stretch.To; {
				to := from + s.Long
				// What this leaves is too little for a take, or nothing,
				// or it is more than there is.
				if stretch.To-to < s.Short {
					to = stretch.To
				}
				if !yield(Span{from, to}) {
					return
				}
				from = to
			}
		}
	}
}

// cut returns the takes of the sitting, or the error of the sitting.
func cut(s Sitting) ([]Span, api.Errno) {
	if !validSitting(s) {
		return nil, api.ErrArg
	}
	var list []Span
	for t := range pieces(s) {
		if len(list) == api.MaxTakes {
			return nil, api.ErrLimit
		}
		list = append(list, t)
	}
	return list, api.OK
}

// paused reports whether the second is in one of the pauses, which rise.
func paused(pauses []Span, second int) bool {
	found := false
search:
	for _, p := range pauses {
		switch {
		case second < p.From:
			break search // all others are later still
		case second < p.To:
			found = true
			break search
		}
	}
	return found
}

// takeOf returns the number of the take that has a second outside of all
// pauses: it is the last one that has begun by then.
func takeOf(takes []Span, second int) int {
	begun := 0
	for _, t := range takes {
		if t.From <= second {
			begun++
		}
	}
	return begun - 1
}

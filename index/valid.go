package index

import (
	"slices"

	"palantype/api"
)

// within reports whether n is from lo to hi.
func within(n, lo, hi int) bool { return lo <= n && n <= hi }

// all reports whether each element of the list fits.
func all[T any](list []T, fits func(T) bool) bool {
	return !slices.ContainsFunc(list, func(x T) bool { return !fits(x) })
}

// fault returns the error of the index, or OK.
func fault(l []Heading) api.Errno {
	switch {
	case len(l) > api.MaxHeadings:
		return api.ErrLimit
	case !all(l, Heading.valid):
		return api.ErrArg
	case !distinct(l):
		return api.ErrTwice
	case !rises(l, Heading.inOrder) || !refers(l):
		return api.ErrArg
	}
	return api.OK
}

// limited reports whether there are not too many headings, nor too much in one.
func limited(l []Heading) bool {
	return len(l) <= api.MaxHeadings && all(l, Heading.limited)
}

// limited reports whether no list of the heading is too long.
func (h Heading) limited() bool {
	return max(len(h.Variants), len(h.Also)) <= api.MaxSee && len(h.Places) <= api.MaxSpots
}

// valid reports whether the heading is as it has to be, whatever the other ones are.
func (h Heading) valid() bool {
	return h.limited() && validName(h.Name) && validNames(h.Variants) && validNames(h.Also) &&
		all(h.Places, Place.valid) && areInOrder(h.Places)
}

// validNames reports whether these are names that rise.
func validNames(list []string) bool { return all(list, validName) && rises(list, inOrder) }

// inOrder compares headings by their Names.
func (h Heading) inOrder(other Heading) int { return inOrder(h.Name, other.Name) }

// distinct reports whether no name leads to two headings, or is the Name and a variant
// of one.
func distinct(l []Heading) bool {
	seen := map[string]bool{}
	for _, h := range l {
		for name := range h.names() {
			if seen[name] {
				return false
			}
			seen[name] = true
		}
	}
	return true
}

// refers reports whether each name in Also is the Name of another heading.
func refers(l []Heading) bool {
	heads := map[string]bool{}
	for _, h := range l {
		heads[h.Name] = true
	}
	return all(l, func(h Heading) bool {
		return all(h.Also, func(name string) bool { return heads[name] && name != h.Name })
	})
}

// copied returns the heading with memory of its own.
func (h Heading) copied() Heading {
	return Heading{h.Name, slices.Clone(h.Variants), slices.Clone(h.Also), slices.Clone(h.Places)}
}

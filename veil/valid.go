package veil

import (
	"slices"

	"palantype/api"
)

// within reports whether n is from lo to hi.
func within(n, lo, hi int) bool { return lo <= n && n <= hi }

// all reports whether each element of the list fits.
func all[T any](list []T, fits func(T) bool) bool {
	return !slices.ContainsFunc(list, func(x T) bool { return !fits(x) })
}

// rising reports whether the numbers rise, from 0 to the most.
func rising(list []int, most int) bool {
	for i, n := range list {
		if !within(n, 0, most) || i > 0 && list[i-1] >= n {
			return false
		}
	}
	return true
}

// firstFault returns the first error of the reports, then that of the reader, or OK.
func firstFault(x Reader, reports ...Report) api.Errno {
	for _, r := range reports {
		if e := r.fault(); e != api.OK {
			return e
		}
	}
	if !x.valid() {
		return api.ErrRange
	}
	return api.OK
}

// fault returns the error of the report, or OK.
func (r Report) fault() api.Errno {
	switch {
	case !r.limited():
		return api.ErrLimit
	case !r.valid():
		return api.ErrArg
	}
	return api.OK
}

// limited reports whether there is not too much of anything.
func (r Report) limited() bool {
	return len(r.Words) <= api.MaxPrinted && len(r.Orders) <= api.MaxOrders &&
		all(r.Words, func(w Word) bool { return len(w.Heads) <= api.MaxHeads })
}

// valid reports whether the words, the orders and the Columns are as they have to
// be.
func (r Report) valid() bool {
	return all(r.Words, Word.valid) && all(r.Orders, r.admits) && within(r.Columns, 1, api.MaxColumn)
}

// valid reports whether the word is as it has to be.
func (w Word) valid() bool {
	return within(len(w.Text), 1, api.MaxTextBytes) &&
		all([]byte(w.Text), func(b byte) bool { return within(int(b), 33, 126) }) &&
		rising(w.Heads, api.MaxHead)
}

// admits reports whether the order may be one of the report's.
func (r Report) admits(o Order) bool {
	return 0 <= o.From && o.From < o.To && o.To <= len(r.Words) &&
		within(o.Kind, 0, api.MaxOrderKind) && within(o.Until, 0, api.MaxYear)
}

// valid reports whether the reader is as one has to be.
func (x Reader) valid() bool {
	return within(x.Year, 0, api.MaxYear) && rising(x.May, api.MaxOrderKind)
}

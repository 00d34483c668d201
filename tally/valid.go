package tally

import (
	"slices"

	"palantype/api"
)

// within reports whether n is from lo to hi.
func within(n, lo, hi int) bool { return lo <= n && n <= hi }

// all reports whether each element of the list fits. It asks none behind one that
// does not.
func all[T any](list []T, fits func(T) bool) bool {
	return !slices.ContainsFunc(list, func(x T) bool { return !fits(x) })
}

// rising reports whether each number is greater than the one ahead of it.
func rising(list []int) bool {
	for i, n := range list {
		if i > 0 && list[i-1] >= n {
			return false
		}
	}
	return true
}

// distinct reports whether no number is in the list twice.
func distinct(list []int) bool {
	seen := map[int]bool{}
	return all(list, func(n int) bool {
		again := seen[n]
		seen[n] = true
		return !again
	})
}

// has reports whether there is such a member.
func (d Division) has(member int) bool { return within(member, 0, d.Members-1) }

// valid reports whether the division is as it has to be.
func (d Division) valid() bool {
	return within(d.Members, 1, api.MaxMembers) &&
		all(d.Ayes[:], d.validList) && all(d.Noes[:], d.validList) &&
		d.validPairs() && d.validProxies() &&
		d.Rule <= Thirds && within(d.Need, 0, api.MaxMembers) && within(d.Quorum, 0, api.MaxMembers) &&
		(d.Tie == Aye || d.Tie == No)
}

// validList reports whether a teller may have written the list.
func (d Division) validList(l List) bool { return rising(l) && all(l, d.has) }

// validPairs reports whether the pairs are as they have to be. As the two of a
// pair are different, and no member is in two pairs, all are different.
func (d Division) validPairs() bool {
	if len(d.Pairs) > api.MaxPairs {
		return false
	}
	var members []int
	for _, p := range d.Pairs {
		members = append(members, p.A, p.B)
	}
	return all(members, d.has) && distinct(members)
}

// validProxies reports whether the proxies are as they have to be. As nobody who
// is For is a Holder, nobody gives the vote of one who gives another's, and
// nobody the own one.
func (d Division) validProxies() bool {
	if len(d.Proxies) > api.MaxProxies {
		return false
	}
	var holders, represented []int
	for _, p := range d.Proxies {
		holders = append(holders, p.Holder)
		represented = append(represented, p.For)
	}
	return all(holders, d.has) && all(represented, d.has) && distinct(represented) &&
		all(represented, func(member int) bool { return !slices.Contains(holders, member) })
}

package tally

// majority tells which numbers are carried, if they are not void.
type majority struct {
	carried func(Numbers) bool
}

// majorityOf returns what the Rule of a valid division asks for.
func majorityOf(d Division) majority {
	return []majority{
		Simple: {func(n Numbers) bool {
			return n.Ayes > n.Noes || n.Ayes == n.Noes && d.Tie == Aye
		}},
		Absolute: {func(n Numbers) bool {
			return n.Ayes >= d.Need || n.Ayes == d.Need-1 && d.Tie == Aye
		}},
		Thirds: {func(n Numbers) bool {
			return 3*n.Ayes >= 2*(n.Ayes+n.Noes) && n.Ayes >= 1
		}},
	}[d.Rule]
}

// numbers returns what counts in a truth: the votes of the members, and those
// that holders give for members who have none.
func (v view) numbers(truth votes) Numbers {
	var n Numbers
	count := func(member int, vote uint8) {
		switch {
		case v.paired[member]:
		case vote == Aye:
			n.Ayes++
		case vote == No:
			n.Noes++
		}
	}
	for member := range v.Members {
		count(member, truth[member])
	}
	for _, p := range v.Proxies {
		if truth[p.For] == None && !v.paired[p.Holder] {
			count(p.For, truth[p.Holder])
		}
	}
	return n
}

// outcome returns the outcome of the numbers.
func (v view) outcome(n Numbers) uint8 {
	switch {
	case n.Ayes+n.Noes < v.Quorum:
		return Void
	case v.carried(n):
		return Carried
	}
	return Lost
}

package tally

import (
	"iter"
	"slices"

	"palantype/api"
)

// nobody is the number of no member.
const nobody = -1

// votes has the vote of each member, by the numbers, and None for members that
// there are not.
type votes [api.MaxMembers]uint8

// votesOf returns the votes of a truth.
func votesOf(truth []uint8) votes {
	var list votes
	copy(list[:], truth)
	return list
}

// of returns the votes of these members, and None for all others.
func (truth votes) of(members []int) votes {
	var list votes
	for _, m := range members {
		list[m] = truth[m]
	}
	return list
}

// view is a valid division that is looked at: with what carries it, who is in a
// pair, and the votes that each member may have, rising.
type view struct {
	Division
	majority
	paired [api.MaxMembers]bool
	may    [][]uint8
}

// check is asked of a division that is looked at; it says the error, or OK.
type check func(view) api.Errno

// lookAt returns the view of the division, or the first error of it: that of a
// division which is not valid, and then those of the checks.
func lookAt(d Division, checks ...check) (view, api.Errno) {
	if !d.valid() {
		return view{}, api.ErrArg
	}
	v := view{Division: d, majority: majorityOf(d)}
	for _, p := range d.Pairs {
		v.paired[p.A], v.paired[p.B] = true, true
	}
	for member := range d.Members {
		v.may = append(v.may, d.mayVote(member))
	}
	for _, ask := range checks {
		if e := ask(v); e != api.OK {
			return view{}, e
		}
	}
	return v, api.OK
}

// mayVote returns the votes that the member may have, rising. Nothing of it
// depends on other members.
func (d Division) mayVote(member int) []uint8 {
	var list []uint8
	for vote := None; vote <= No; vote++ {
		if fits(d.Ayes, member, vote == Aye) && fits(d.Noes, member, vote == No) {
			list = append(list, vote)
		}
	}
	return list
}

// fits reports whether, by the lists of a lobby, the member has its vote, or not,
// as is said. Whoever is on one list alone may have been there or not.
func fits(lobby [2]List, member int, has bool) bool {
	first, second := slices.Contains(lobby[0], member), slices.Contains(lobby[1], member)
	return first != second || first == has
}

// clash returns the first member who clashes, or nobody. Such members, and no
// others, may have no vote at all: they would have to vote in both lobbies.
func (v view) clash() int {
	return slices.IndexFunc(v.may, func(list []uint8) bool { return len(list) == 0 })
}

// doubtful reports whether there is such a member, who may have different votes.
func (v view) doubtful(member int) bool { return v.has(member) && len(v.may[member]) > 1 }

// doubts returns the doubtful members.
func (v view) doubts() []int {
	var list []int
	for member := range v.Members {
		if v.doubtful(member) {
			list = append(list, member)
		}
	}
	return list
}

// together says the error of a division in which a member clashes.
func (v view) together() api.Errno {
	if v.clash() != nobody {
		return api.ErrFail
	}
	return api.OK
}

// few says the error of a division with too many doubtful members: it would have
// too many truths.
func (v view) few() api.Errno {
	if len(v.doubts()) > api.MaxDoubts {
		return api.ErrLimit
	}
	return api.OK
}

// known returns the check of an outcome.
func known(outcome uint8) check {
	return func(view) api.Errno {
		if outcome > Void {
			return api.ErrRange
		}
		return api.OK
	}
}

// given returns the check of whether the truth has a vote of each member.
func given(truth []uint8) check {
	return func(v view) api.Errno {
		if len(truth) != v.Members || !all(truth, func(vote uint8) bool { return vote <= No }) {
			return api.ErrRange
		}
		return api.OK
	}
}

// fitting returns the check of whether a truth fits that has all votes.
func fitting(truth []uint8) check {
	return func(v view) api.Errno {
		for member, vote := range truth {
			if !slices.Contains(v.may[member], vote) {
				return api.ErrNone
			}
		}
		return api.OK
	}
}

// truths gives all truths, the least one first: each member has each vote that it
// may have, with each of the others.
func (v view) truths() iter.Seq[votes] {
	return func(yield func(votes) bool) {
		var give func(member int, truth votes) bool
		give = func(member int, truth votes) bool {
			if member == v.Members {
				return yield(truth)
			}
			for _, vote := range v.may[member] {
				truth[member] = vote
				if !give(member+1, truth) {
					return false
				}
			}
			return true
		}
		give(0, votes{})
	}
}

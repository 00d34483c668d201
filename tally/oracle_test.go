package tally_test

import (
	"slices"

	"palantype/api"
	"palantype/tally"
)

// This file says again what the chapter defines, as literally and slowly as
// can be; the tests hold the package against it.

// dice is a row of numbers that look thrown, and are the same in each run.
type dice uint64

// roll returns a number from lo to hi.
func (d *dice) roll(lo, hi int) int {
	*d = *d*6364136223846793005 + 1442695040888963407
	return lo + int(uint64(*d)>>33)%(hi-lo+1)
}

// one reports whether it is one time in so many.
func (d *dice) one(many int) bool { return d.roll(1, many) == 1 }

// mix deals out the elements of the list.
func mix[T any](d *dice, l []T) {
	for i := range l {
		k := d.roll(0, i)
		l[i], l[k] = l[k], l[i]
	}
}

func pair(a, b int) tally.Pair { return tally.Pair{A: a, B: b} }

func proxy(holder, represented int) tally.Proxy {
	return tally.Proxy{Holder: holder, For: represented}
}

func span(lo, hi int) tally.Range { return tally.Range{Lo: lo, Hi: hi} }

func numbers(ayes, noes int) tally.Numbers { return tally.Numbers{Ayes: ayes, Noes: noes} }

// row returns the votes that the letters say: A for Aye, N for No, others for None.
func row(letters string) []uint8 {
	var l []uint8
	for _, c := range letters {
		l = append(l, map[rune]uint8{'A': tally.Aye, 'N': tally.No}[c])
	}
	return l
}

// lobbies is the division of the chapter's examples.
func lobbies() tally.Division {
	return tally.Division{
		Members: 6, Ayes: [2][]int{{0, 1, 2}, {0, 1, 3}}, Noes: [2][]int{{4, 5}, {4, 5}},
		Proxies: []tally.Proxy{proxy(4, 3)}, Quorum: 3, Tie: tally.No,
	}
}

// written is a division of which each member has one of 16 marks: the bits of it
// say on which lists the member is, those of the Ayes first.
func written(marks ...int) tally.Division {
	d := tally.Division{Members: len(marks), Tie: tally.No}
	for m, mark := range marks {
		for i, l := range listsOf(&d) {
			if mark>>i&1 == 1 {
				*l = append(*l, m)
			}
		}
	}
	return d
}

// listsOf returns where the four lists stand.
func listsOf(d *tally.Division) [4]*[]int {
	return [4]*[]int{&d.Ayes[0], &d.Ayes[1], &d.Noes[0], &d.Noes[1]}
}

// cloned returns a copy that shares no memory.
func cloned(d tally.Division) tally.Division {
	for _, l := range listsOf(&d) {
		*l = slices.Clone(*l)
	}
	d.Pairs, d.Proxies = slices.Clone(d.Pairs), slices.Clone(d.Proxies)
	return d
}

// faultOf says whether a division is valid.
func faultOf(d tally.Division) api.Errno {
	no := func(m int) bool { return m < 0 || m >= d.Members }
	bad := d.Members < 1 || d.Members > api.MaxMembers || len(d.Pairs) > api.MaxPairs || len(d.Proxies) > api.MaxProxies ||
		d.Rule != tally.Simple && d.Rule != tally.Absolute && d.Rule != tally.Thirds ||
		d.Need < 0 || d.Need > api.MaxMembers || d.Quorum < 0 || d.Quorum > api.MaxMembers ||
		d.Tie != tally.Aye && d.Tie != tally.No
	for _, l := range listsOf(&d) {
		for i, m := range *l {
			bad = bad || no(m) || i > 0 && m <= (*l)[i-1]
		}
	}
	for i, p := range d.Pairs {
		bad = bad || no(p.A) || no(p.B) || p.A == p.B
		for _, q := range d.Pairs[:i] {
			bad = bad || p.A == q.A || p.A == q.B || p.B == q.A || p.B == q.B
		}
	}
	for i, p := range d.Proxies {
		bad = bad || no(p.Holder) || no(p.For) || p.Holder == p.For
		for k, q := range d.Proxies {
			bad = bad || i != k && p.For == q.For || p.For == q.Holder
		}
	}
	if bad {
		return api.ErrArg
	}
	return api.OK
}

// mayHave says whether the member may have the vote, by the lists.
func mayHave(d tally.Division, m int, vote uint8) bool {
	for lobby, lists := range map[uint8][2][]int{tally.Aye: d.Ayes, tally.No: d.Noes} {
		a, b := slices.Contains(lists[0], m), slices.Contains(lists[1], m)
		if a && b && vote != lobby || !a && !b && vote == lobby {
			return false
		}
	}
	return true
}

// fits says whether a vote of each member is a truth that fits.
func fits(d tally.Division, truth []uint8) bool {
	for m, vote := range truth {
		if !mayHave(d, m, vote) {
			return false
		}
	}
	return true
}

// clashOf returns the members who clash.
func clashOf(d tally.Division) []int {
	var l []int
	for m := range d.Members {
		if slices.Contains(d.Ayes[0], m) && slices.Contains(d.Ayes[1], m) && slices.Contains(d.Noes[0], m) && slices.Contains(d.Noes[1], m) {
			l = append(l, m)
		}
	}
	return l
}

// doubtsOf returns the members who are on some list, but not on both of one lobby.
func doubtsOf(d tally.Division) []int {
	var l []int
	for m := range d.Members {
		var on [4]bool
		for i, list := range listsOf(&d) {
			on[i] = slices.Contains(*list, m)
		}
		if slices.Contains(on[:], true) && !(on[0] && on[1]) && !(on[2] && on[3]) {
			l = append(l, m)
		}
	}
	return l
}

// truthsOf returns all truths that fit, rising.
func truthsOf(d tally.Division) [][]uint8 {
	rows := [][]uint8{{}}
	for m := range d.Members {
		var longer [][]uint8
		for _, r := range rows {
			for vote := range uint8(3) {
				if mayHave(d, m, vote) {
					longer = append(longer, append(slices.Clone(r), vote))
				}
			}
		}
		rows = longer
	}
	return rows
}

// inPair says whether the member is in a pair.
func inPair(d tally.Division, m int) bool {
	return slices.ContainsFunc(d.Pairs, func(p tally.Pair) bool { return p.A == m || p.B == m })
}

// numbersOf returns what counts in a truth.
func numbersOf(d tally.Division, truth []uint8) tally.Numbers {
	var count [3]int
	for m, vote := range truth {
		if inPair(d, m) {
			continue
		}
		if vote == tally.None {
			for _, p := range d.Proxies {
				if p.For == m && !inPair(d, p.Holder) {
					vote = truth[p.Holder]
				}
			}
		}
		count[vote]++
	}
	return numbers(count[tally.Aye], count[tally.No])
}

// outcomeOf returns the outcome of numbers.
func outcomeOf(d tally.Division, n tally.Numbers) uint8 {
	tie := 0 // what a tie counts for Aye
	if d.Tie == tally.Aye {
		tie = 1
	}
	carried := false
	switch d.Rule {
	case tally.Simple:
		carried = n.Ayes+tie > n.Noes
	case tally.Absolute:
		carried = n.Ayes+tie >= d.Need
	case tally.Thirds:
		carried = n.Ayes > 0 && n.Ayes >= 2*n.Noes
	}
	switch {
	case n.Ayes+n.Noes < d.Quorum:
		return tally.Void
	case carried:
		return tally.Carried
	}
	return tally.Lost
}

// answers has what follows from all truths of a division: the truths, and the
// outcome of each.
type answers struct {
	rows     [][]uint8
	outcomes []uint8
	ayes     []int
	noes     []int
}

func answersOf(d tally.Division) answers {
	a := answers{rows: truthsOf(d)}
	for _, r := range a.rows {
		n := numbersOf(d, r)
		a.ayes, a.noes = append(a.ayes, n.Ayes), append(a.noes, n.Noes)
		a.outcomes = append(a.outcomes, outcomeOf(d, n))
	}
	return a
}

// bounds returns the ranges of the numbers.
func (a answers) bounds() (ayes, noes tally.Range) {
	return span(slices.Min(a.ayes), slices.Max(a.ayes)), span(slices.Min(a.noes), slices.Max(a.noes))
}

// allowed returns the outcomes, rising.
func (a answers) allowed() []uint8 {
	l := slices.Sorted(slices.Values(a.outcomes))
	return slices.Compact(l)
}

// witness returns the first truth with the outcome, or nil.
func (a answers) witness(outcome uint8) []uint8 {
	if i := slices.Index(a.outcomes, outcome); i >= 0 {
		return a.rows[i]
	}
	return nil
}

// votesOf returns the votes of these members in a truth.
func votesOf(truth []uint8, members []int) []uint8 {
	var l []uint8
	for _, m := range members {
		l = append(l, truth[m])
	}
	return l
}

// decide says whether the members decide: of each two truths, or, if there are
// many, of all that are alike.
func (a answers) decide(members []int) bool {
	if len(a.rows) > 300 {
		alike := map[string]uint8{}
		for i, r := range a.rows {
			votes := string(votesOf(r, members))
			if o, met := alike[votes]; met && o != a.outcomes[i] {
				return false
			}
			alike[votes] = a.outcomes[i]
		}
		return true
	}
	for i, r := range a.rows {
		for k, s := range a.rows[:i] {
			if a.outcomes[i] != a.outcomes[k] && slices.Equal(votesOf(r, members), votesOf(s, members)) {
				return false
			}
		}
	}
	return true
}

// setsOf returns all lists of elements, in order, of the list.
func setsOf(l []int) [][]int {
	var sets [][]int
	for bits := range 1 << len(l) {
		set := []int{}
		for i, x := range l {
			if bits>>i&1 == 1 {
				set = append(set, x)
			}
		}
		sets = append(sets, set)
	}
	return sets
}

// question returns the least of the lists with the fewest doubtful members who
// decide.
func (a answers) question(doubts []int) []int {
	sets := setsOf(doubts)
	slices.SortFunc(sets, func(x, y []int) int {
		if len(x) != len(y) {
			return len(x) - len(y)
		}
		return slices.Compare(x, y)
	})
	return sets[slices.IndexFunc(sets, a.decide)]
}

// smallDivisions gives all divisions of one and of two members, but for greater
// Needs and Quorums and the order of a pair, and many of three.
func smallDivisions(yield func(tally.Division) bool) {
	one, two := pairings(1), pairings(2)
	for mark := range 16 {
		for _, p := range one {
			if !ruled(p(written(mark)), yield) {
				return
			}
		}
	}
	for marks := range 256 {
		for _, p := range two {
			if !ruled(p(written(marks&15, marks>>4)), yield) {
				return
			}
		}
	}
	for marks := range 4096 {
		for i, p := range pairings(3) {
			d := p(written(marks&15, marks>>4&15, marks>>8))
			d.Rule, d.Need, d.Quorum, d.Tie = uint8(marks%3), 2, marks%5%4, uint8(1+(marks+i)%2)
			if !yield(d) {
				return
			}
		}
	}
}

// ruled gives the division with all rules, as far as it is so small that they
// matter.
func ruled(d tally.Division, yield func(tally.Division) bool) bool {
	for d.Quorum = range 4 {
		for d.Tie = tally.Aye; d.Tie <= tally.No; d.Tie++ {
			for _, x := range []struct {
				rule uint8
				need int
			}{{tally.Simple, 0}, {tally.Thirds, 0}, {tally.Absolute, 0}, {tally.Absolute, 1}, {tally.Absolute, 2}, {tally.Absolute, 3}} {
				d.Rule, d.Need = x.rule, x.need
				if !yield(d) {
					return false
				}
			}
		}
	}
	return true
}

// pairings returns what gives a division of so few members pairs and proxies.
func pairings(members int) []func(tally.Division) tally.Division {
	with := func(pairs []tally.Pair, proxies ...tally.Proxy) func(tally.Division) tally.Division {
		return func(d tally.Division) tally.Division {
			d.Pairs, d.Proxies = pairs, proxies
			return d
		}
	}
	l := []func(tally.Division) tally.Division{with(nil)}
	if members > 1 {
		a := []tally.Pair{pair(1, 0)}
		l = append(l, with(a), with(nil, proxy(0, 1)), with(nil, proxy(1, 0)), with(a, proxy(0, 1)), with(a, proxy(1, 0)))
	}
	if members > 2 {
		l = append(l, with(nil, proxy(0, 1), proxy(0, 2)), with(nil, proxy(2, 1), proxy(2, 0)), with(nil, proxy(0, 2)), with([]tally.Pair{pair(0, 2)}, proxy(0, 1)), with([]tally.Pair{pair(0, 2)}, proxy(1, 0)))
	}
	return l
}

// sure and unsure are the marks of those whose vote is sure, and is not.
var (
	sureMarks   = []int{0, 0, 3, 3, 3, 7, 11, 12, 12, 12, 13, 14}
	unsureMarks = []int{1, 2, 4, 8, 5, 6, 9, 10}
)

// division throws a division of at most so many members, nearly always with at
// most so many doubtful ones, of whom none clashes.
func (d *dice) division(members, doubts int) tally.Division {
	marks := make([]int, d.roll(1, members))
	for m := range marks {
		marks[m] = sureMarks[d.roll(0, len(sureMarks)-1)]
	}
	for range d.roll(0, doubts) {
		marks[d.roll(0, len(marks)-1)] = unsureMarks[d.roll(0, len(unsureMarks)-1)]
	}
	x := written(marks...)
	d.arrange(&x)
	x.Rule, x.Tie = uint8(d.roll(0, 2)), uint8(d.roll(1, 2))
	x.Need = d.roll(0, min(api.MaxMembers, len(marks)/2+3))
	if d.one(3) {
		x.Quorum = d.roll(0, min(api.MaxMembers, len(marks)))
	}
	return x
}

// arrange throws pairs and proxies of a division.
func (d *dice) arrange(x *tally.Division) {
	l := make([]int, x.Members)
	for m := range l {
		l[m] = m
	}
	mix(d, l)
	for i := 0; i+1 < len(l) && len(x.Pairs) < api.MaxPairs && d.one(2); i += 2 {
		x.Pairs = append(x.Pairs, pair(l[i], l[i+1]))
	}
	mix(d, l)
	holders := d.roll(1, len(l)) // the others may be represented
	for i := holders; i < len(l) && len(x.Proxies) < api.MaxProxies && !d.one(4); i++ {
		x.Proxies = append(x.Proxies, proxy(l[d.roll(0, holders-1)], l[i]))
	}
}

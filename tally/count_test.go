package tally_test

import (
	"slices"
	"testing"

	"palantype/api"
	"palantype/tally"
)

// holdCount holds that Count returns the numbers and the outcome of a truth.
func holdCount(t *testing.T, d tally.Division, truth []uint8, want tally.Numbers, outcome uint8) {
	t.Helper()
	if n, o, e := tally.Count(d, truth); n != want || o != outcome || e != api.OK {
		t.Fatalf("Count of %v, %v: %v, %v, %v, not %v, %v", d, truth, n, o, e, want, outcome)
	}
}

// faultOfTruth says which error Count returns for a valid division.
func faultOfTruth(d tally.Division, truth []uint8) api.Errno {
	switch {
	case len(truth) != d.Members || slices.ContainsFunc(truth, func(v uint8) bool { return v != 0 && v != 1 && v != 2 }):
		return api.ErrRange
	case len(clashOf(d)) > 0:
		return api.ErrFail
	case !fits(d, truth):
		return api.ErrNone
	}
	return api.OK
}

// holdAnyCount holds Count of any row of votes against what the chapter defines.
func holdAnyCount(t *testing.T, d tally.Division, truth []uint8) api.Errno {
	t.Helper()
	e := faultOfTruth(d, truth)
	if e != api.OK {
		holdNoCount(t, d, truth, e)
		return e
	}
	n := numbersOf(d, truth)
	holdCount(t, d, truth, n, outcomeOf(d, n))
	return e
}

// P7.2: the example of the chapter, and what else may be true there.
func TestP7_2Count(t *testing.T) {
	d := lobbies()
	holdCount(t, d, row("AAA-NN"), numbers(3, 3), tally.Lost)
	holdCount(t, d, row("AA--NN"), numbers(2, 3), tally.Lost)
	holdCount(t, d, row("AA-ANN"), numbers(3, 2), tally.Carried)
	holdCount(t, d, row("AAAANN"), numbers(4, 2), tally.Carried)
	d.Tie = tally.Aye
	holdCount(t, d, row("AAA-NN"), numbers(3, 3), tally.Carried)
	holdCount(t, d, row("AA--NN"), numbers(2, 3), tally.Lost)
	d.Quorum = 6
	holdCount(t, d, row("AAA-NN"), numbers(3, 3), tally.Carried)
	holdCount(t, d, row("AA-ANN"), numbers(3, 2), tally.Void)
}

// P7.2: what counts of pairs and proxies.
func TestP7_2CountPairsAndProxies(t *testing.T) {
	for _, x := range []struct {
		votes        string
		pairs        []tally.Pair
		proxies      []tally.Proxy
		ayes, noes   int
		withoutPairs tally.Numbers
	}{
		{"AANN-", []tally.Pair{pair(0, 2)}, nil, 1, 1, numbers(2, 2)},
		{"AANN-", []tally.Pair{pair(3, 2), pair(0, 4)}, nil, 1, 0, numbers(2, 2)},
		{"AANN-", []tally.Pair{pair(3, 2), pair(0, 1)}, nil, 0, 0, numbers(2, 2)},
		// A proxy counts if the holder votes, and the other one has no vote.
		{"AANN-", nil, []tally.Proxy{proxy(0, 4)}, 3, 2, numbers(3, 2)},
		{"AANN-", nil, []tally.Proxy{proxy(3, 4)}, 2, 3, numbers(2, 3)},
		{"AANN-", nil, []tally.Proxy{proxy(0, 3)}, 2, 2, numbers(2, 2)},
		{"AANN-", nil, []tally.Proxy{proxy(0, 1)}, 2, 2, numbers(2, 2)},
		{"AANN-", nil, []tally.Proxy{proxy(4, 3)}, 2, 2, numbers(2, 2)},
		{"AAN--", nil, []tally.Proxy{proxy(4, 3)}, 2, 1, numbers(2, 1)},
		{"A----", nil, []tally.Proxy{proxy(0, 1), proxy(0, 4), proxy(0, 2)}, 4, 0, numbers(4, 0)},
		{"A--N-", nil, []tally.Proxy{proxy(0, 1), proxy(3, 4), proxy(3, 2)}, 2, 3, numbers(2, 3)},
		// Nothing counts of the one who is in a pair, nor for the one whose
		// holder is in a pair.
		{"AANN-", []tally.Pair{pair(4, 1)}, []tally.Proxy{proxy(0, 4)}, 1, 2, numbers(3, 2)},
		{"AANN-", []tally.Pair{pair(0, 1)}, []tally.Proxy{proxy(0, 4)}, 0, 2, numbers(3, 2)},
		{"AANN-", []tally.Pair{pair(1, 0)}, []tally.Proxy{proxy(0, 4)}, 0, 2, numbers(3, 2)},
		{"AANN-", []tally.Pair{pair(4, 0)}, []tally.Proxy{proxy(0, 4)}, 1, 2, numbers(3, 2)},
		{"AANN-", []tally.Pair{pair(2, 1)}, []tally.Proxy{proxy(0, 4)}, 2, 1, numbers(3, 2)},
		{"-----", nil, []tally.Proxy{proxy(0, 4), proxy(1, 2)}, 0, 0, numbers(0, 0)},
	} {
		d := tally.Division{Members: 5, Pairs: x.pairs, Proxies: x.proxies, Tie: tally.No}
		truth := row(x.votes)
		for m, vote := range truth {
			if vote == tally.Aye {
				d.Ayes[0], d.Ayes[1] = append(d.Ayes[0], m), append(d.Ayes[1], m)
			}
			if vote == tally.No {
				d.Noes[0], d.Noes[1] = append(d.Noes[0], m), append(d.Noes[1], m)
			}
		}
		n := numbers(x.ayes, x.noes)
		holdCount(t, d, truth, n, outcomeOf(d, n))
		d.Pairs = nil
		holdCount(t, d, truth, x.withoutPairs, outcomeOf(d, x.withoutPairs))
	}
}

// voted is a division in which so many voted, and the others did not, and nobody
// is doubtful; with its truth.
func voted(members, ayes, noes int) (tally.Division, []uint8) {
	marks, truth := make([]int, members), make([]uint8, members)
	for m := range ayes {
		marks[m], truth[m] = 3, tally.Aye
	}
	for m := range noes {
		marks[members-1-m], truth[members-1-m] = 12, tally.No
	}
	return written(marks...), truth
}

// P7.2: the outcomes, with the numbers at which they change.
func TestP7_2CountOutcomes(t *testing.T) {
	const lost, carried, void = tally.Lost, tally.Carried, tally.Void
	for _, x := range []struct {
		ayes, noes       int
		rule             uint8
		need, quorum     int
		tieNo, tieAye    uint8
		withQuorumHigher uint8
	}{
		{5, 4, tally.Simple, 40, 9, carried, carried, void},
		{4, 4, tally.Simple, 40, 8, lost, carried, void},
		{4, 5, tally.Simple, 0, 9, lost, lost, void},
		{0, 0, tally.Simple, 0, 0, lost, carried, void},
		{5, 35, tally.Absolute, 5, 40, carried, carried, carried}, // no quorum is higher
		{4, 35, tally.Absolute, 5, 39, lost, carried, void},
		{3, 0, tally.Absolute, 5, 3, lost, lost, void},
		{0, 9, tally.Absolute, 0, 9, carried, carried, void},
		{0, 9, tally.Absolute, 1, 9, lost, carried, void},
		{0, 9, tally.Absolute, 2, 9, lost, lost, void},
		{39, 1, tally.Absolute, 40, 40, lost, carried, carried},
		{4, 2, tally.Thirds, 40, 6, carried, carried, void},
		{3, 2, tally.Thirds, 0, 5, lost, lost, void},
		{5, 3, tally.Thirds, 0, 8, lost, lost, void},
		{6, 3, tally.Thirds, 0, 9, carried, carried, void},
		{26, 14, tally.Thirds, 0, 40, lost, lost, lost},
		{27, 13, tally.Thirds, 0, 40, carried, carried, carried},
		{1, 0, tally.Thirds, 0, 1, carried, carried, void},
		{1, 1, tally.Thirds, 0, 2, lost, lost, void},
		{0, 0, tally.Thirds, 0, 0, lost, lost, void},
		{0, 1, tally.Thirds, 0, 1, lost, lost, void},
	} {
		d, truth := voted(api.MaxMembers, x.ayes, x.noes)
		d.Rule, d.Need, d.Quorum = x.rule, x.need, x.quorum
		holdCount(t, d, truth, numbers(x.ayes, x.noes), x.tieNo)
		d.Tie = tally.Aye
		holdCount(t, d, truth, numbers(x.ayes, x.noes), x.tieAye)
		if d.Quorum < api.MaxMembers {
			d.Quorum++
			holdCount(t, d, truth, numbers(x.ayes, x.noes), x.withQuorumHigher)
		}
	}
}

// P7.2: all numbers of small parliaments, by all rules.
func TestP7_2CountAllNumbers(t *testing.T) {
	var count [3]int
	for ayes := range 9 {
		for noes := range 9 - ayes {
			d, truth := voted(8, ayes, noes)
			for d.Rule = range tally.Thirds + 1 {
				for d.Need = range 10 {
					for d.Quorum = range 10 {
						for _, d.Tie = range []uint8{tally.Aye, tally.No} {
							n := numbers(ayes, noes)
							holdCount(t, d, truth, n, outcomeOf(d, n))
							count[outcomeOf(d, n)]++
						}
					}
				}
			}
		}
	}
	if slices.Min(count[:]) < 5000 {
		t.Errorf("%v are the outcomes", count)
	}
}

// P7.2: rows of votes that are refused, each with the first error.
func TestP7_2CountRefuses(t *testing.T) {
	for _, x := range []struct {
		votes []uint8
		want  api.Errno
		clash api.Errno // if somebody clashes
	}{
		{nil, api.ErrRange, api.ErrRange}, {row("AAA-N"), api.ErrRange, api.ErrRange}, {row("AAA-NNN"), api.ErrRange, api.ErrRange}, {make([]uint8, 1000), api.ErrRange, api.ErrRange},
		{[]uint8{3, 1, 1, 0, 2, 2}, api.ErrRange, api.ErrRange}, {[]uint8{1, 1, 1, 0, 2, 3}, api.ErrRange, api.ErrRange}, {[]uint8{1, 1, 1, 0, 255, 2}, api.ErrRange, api.ErrRange}, {[]uint8{2, 1, 1, 0, 2, 4}, api.ErrRange, api.ErrRange},
		{row("-AA-NN"), api.ErrNone, api.ErrFail}, {row("NAA-NN"), api.ErrNone, api.ErrFail}, {row("AAN-NN"), api.ErrNone, api.ErrFail}, {row("AA-NNN"), api.ErrNone, api.ErrFail}, {row("AAAA-N"), api.ErrNone, api.ErrFail}, {row("AAAANA"), api.ErrNone, api.ErrFail},
		{row("AAAANN"), api.OK, api.ErrFail},
	} {
		if e := holdAnyCount(t, lobbies(), x.votes); e != x.want {
			t.Fatalf("%v: %v, not %v", x.votes, e, x.want)
		}
		d := cloned(lobbies())
		for _, l := range listsOf(&d) {
			*l = []int{4}
		}
		if e := holdAnyCount(t, d, x.votes); e != x.clash {
			t.Fatalf("%v, with a clash: %v, not %v", x.votes, e, x.clash)
		}
	}
}

// P7.2: all marks, and all votes.
func TestP7_2CountAllMarks(t *testing.T) {
	for mark, want := range []string{0: "-", 1: "-A", 2: "-A", 3: "A", 4: "-N", 5: "-AN", 6: "-AN", 7: "A", 8: "-N", 9: "-AN", 10: "-AN", 11: "A", 12: "N", 13: "N", 14: "N", 15: ""} {
		for vote := range uint8(4) {
			d := written(3, mark)
			e := holdAnyCount(t, d, []uint8{tally.Aye, vote})
			switch fit := slices.Contains(row(want), vote); {
			case fit != (e == api.OK), mark == 15 && vote < 3 && e != api.ErrFail, vote == 3 && e != api.ErrRange:
				t.Fatalf("the mark %d, the vote %d: %v", mark, vote, e)
			}
		}
	}
}

// P7.2: all rows of votes of small divisions, and some of larger ones.
func TestP7_2CountMany(t *testing.T) {
	seen := map[api.Errno]int{}
	for d := range smallDivisions {
		if d.Members < 3 {
			for i := range 16 {
				seen[holdAnyCount(t, d, []uint8{uint8(i & 3), uint8(i >> 2)}[:d.Members])]++
			}
		}
	}
	d := dice(2)
	byProxy, inPairs := 0, 0
	for range 4000 {
		x := d.division(api.MaxMembers, 40)
		truth := make([]uint8, x.Members)
		for m := range truth {
			truth[m] = uint8(d.roll(0, 2))
			for !mayHave(x, m, truth[m]) {
				truth[m] = uint8(d.roll(0, 2))
			}
		}
		seen[holdAnyCount(t, x, truth)]++
		bare := cloned(x)
		bare.Proxies = nil
		if numbersOf(bare, truth) != numbersOf(x, truth) {
			byProxy++
		}
		if bare.Pairs = nil; len(x.Pairs) > 0 && numbersOf(bare, truth) != numbersOf(x, truth) {
			inPairs++
		}
		truth[d.roll(0, len(truth)-1)] = uint8(d.roll(0, 3))
		seen[holdAnyCount(t, x, truth)]++
	}
	if seen[api.OK] < 10000 || seen[api.ErrRange] < 1000 || seen[api.ErrFail] < 1000 || seen[api.ErrNone] < 1000 || byProxy < 800 || inPairs < 800 {
		t.Errorf("%v; %d have other numbers by proxies, %d by pairs", seen, byProxy, inPairs)
	}
}

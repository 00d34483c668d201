package tally_test

import (
	"reflect"
	"slices"
	"testing"

	"palantype/api"
	"palantype/tally"
)

// sure has what is said of a division: what the calls return that have no other
// arguments.
type sure struct {
	doubts     []int
	ayes, noes tally.Range
	allowed    []uint8
	witnesses  [3][]uint8
	question   []int
}

// sureOf returns what is sure of a division in which nobody clashes, with not too
// many doubtful members.
func sureOf(t *testing.T, d tally.Division) (s sure) {
	t.Helper()
	var codes [4]api.Errno
	s.doubts, codes[0] = tally.Doubts(d)
	s.ayes, s.noes, codes[1] = tally.Bounds(d)
	s.allowed, codes[2] = tally.Allowed(d)
	s.question, codes[3] = tally.Ask(d)
	if codes != [4]api.Errno{} {
		t.Fatalf("%v: %v", d, codes)
	}
	for _, o := range s.allowed {
		w, e := tally.Witness(d, o)
		if e != api.OK {
			t.Fatalf("Witness of %v, %v: %v", d, o, e)
		}
		s.witnesses[o] = w
	}
	return s
}

// counted returns what Count does of a truth that fits.
func counted(t *testing.T, d tally.Division, truth []uint8) (tally.Numbers, uint8) {
	t.Helper()
	n, o, e := tally.Count(d, truth)
	if e != api.OK {
		t.Fatalf("Count of %v, %v: %v", d, truth, e)
	}
	return n, o
}

// has says whether the number is in the range.
func has(r tally.Range, n int) bool { return r.Lo <= n && n <= r.Hi }

// puts puts the member on the list, or takes it off.
func puts(l []int, member int, on bool) []int {
	at, found := slices.BinarySearch(l, member)
	switch {
	case on && !found:
		return slices.Insert(slices.Clone(l), at, member)
	case !on && found:
		return slices.Delete(slices.Clone(l), at, at+1)
	}
	return l
}

// asked is the division in which the members have their votes on both lists, or
// on none.
func asked(d tally.Division, members []int, truth []uint8) tally.Division {
	d = cloned(d)
	for _, m := range members {
		for i, l := range listsOf(&d) {
			*l = puts(*l, m, truth[m] == tally.Aye && i < 2 || truth[m] == tally.No && i >= 2)
		}
	}
	return d
}

// vote throws a truth, and what two tellers, of whom one may be wrong, write of
// each member.
func (d *dice) vote(members, wrong int) (tally.Division, []uint8) {
	truth := make([]uint8, d.roll(1, members))
	marks := make([]int, len(truth))
	for m := range truth {
		truth[m] = uint8(d.roll(0, 2))
		marks[m] = []int{0, 3, 12}[truth[m]]
	}
	for range d.roll(0, wrong) {
		// One list of a lobby is changed: a member is missing, or is there
		// without the vote; and perhaps one of the other lobby.
		m := d.roll(0, len(truth)-1)
		marks[m] = []int{0, 3, 12}[truth[m]] ^ []int{1, 2, 4, 8, 5, 6, 9, 10}[d.roll(0, 7)]
	}
	x := written(marks...)
	d.arrange(&x)
	x.Rule, x.Tie, x.Need = uint8(d.roll(0, 2)), uint8(d.roll(1, 2)), d.roll(0, min(40, len(truth)/2+2))
	if d.one(3) {
		x.Quorum = d.roll(0, len(truth))
	}
	return x, truth
}

// P7.6: whoever voted is on a list of the lobby, and whoever is on both voted.
func TestP7_6AnyTruth(t *testing.T) {
	d := dice(6)
	doubtful, several, unlimited := 0, 0, 0
	for range 4000 {
		x, truth := d.vote(api.MaxMembers, d.roll(0, 13))
		n, o := counted(t, x, truth)
		doubts, e := tally.Doubts(x)
		if e != api.OK {
			t.Fatalf("Doubts of %v: %v", x, e)
		}
		if len(doubts) > api.MaxDoubts {
			unlimited++
			continue
		}
		s := sureOf(t, x)
		if !slices.Contains(s.allowed, o) || !has(s.ayes, n.Ayes) || !has(s.noes, n.Noes) {
			t.Fatalf("%v, where the truth is %v: %v", x, truth, s)
		}
		doubtful += len(doubts)
		several += len(s.allowed) - 1
	}
	if doubtful < 5000 || several < 500 || unlimited < 30 {
		t.Errorf("%d are doubtful, %d more outcomes are allowed, %d times too many are doubtful", doubtful, several, unlimited)
	}
}

// P7.6: all truths of two members, with all lists that fit.
func TestP7_6AllTruths(t *testing.T) {
	count := 0
	for marks := range 256 {
		d := written(marks&15, marks>>4)
		d.Quorum = marks % 3
	truths:
		for i := range 9 {
			truth := []uint8{uint8(i % 3), uint8(i / 3)}
			for lobby, lists := range map[uint8][2][]int{tally.Aye: d.Ayes, tally.No: d.Noes} {
				for m, vote := range truth {
					on := [2]bool{slices.Contains(lists[0], m), slices.Contains(lists[1], m)}
					if vote == lobby && on == [2]bool{} || vote != lobby && on == [2]bool{true, true} {
						continue truths
					}
				}
			}
			n, o := counted(t, d, truth)
			s := sureOf(t, d)
			if !slices.Contains(s.allowed, o) || !has(s.ayes, n.Ayes) || !has(s.noes, n.Noes) {
				t.Fatalf("%v, where the truth is %v: %v", d, truth, s)
			}
			count++
		}
	}
	// By each lobby there are three marks for whoever voted there, and for whoever
	// did not.
	if want := 3 * 3 * 3 * 3 * 3 * 3; count != want {
		t.Errorf("%d truths, not %d", count, want)
	}
}

// P7.7: who is allowed has a witness, and nobody else.
func TestP7_7Witnessed(t *testing.T) {
	d := dice(7)
	var seen, none [3]int
	for range 4000 {
		x := d.division(d.roll(1, 30), 6)
		s := sureOf(t, x)
		for outcome := range tally.Void + 1 {
			w, e := tally.Witness(x, outcome)
			if !slices.Contains(s.allowed, outcome) {
				if e != api.ErrNone || len(w) != 0 {
					t.Fatalf("Witness of %v, %v: %v, %v", x, outcome, w, e)
				}
				none[outcome]++
				continue
			}
			if n, o := counted(t, x, w); e != api.OK || o != outcome || !has(s.ayes, n.Ayes) || !has(s.noes, n.Noes) {
				t.Fatalf("Witness of %v, %v: %v, %v, which counts %v, %v", x, outcome, w, e, n, o)
			}
			seen[outcome]++
		}
	}
	if slices.Min(seen[:]) < 400 || slices.Min(none[:]) < 400 {
		t.Errorf("%v are witnessed, %v are not", seen, none)
	}
}

// P7.7: both ends of the bounds are numbers of truths.
func TestP7_7BoundsAreReached(t *testing.T) {
	d := dice(77)
	wide := 0
	for range 1000 {
		x := d.division(d.roll(1, 30), 5)
		s := sureOf(t, x)
		var found [4]bool
		for _, truth := range truthsOf(x) {
			n, _ := counted(t, x, truth)
			for i, b := range []bool{n.Ayes == s.ayes.Lo, n.Ayes == s.ayes.Hi, n.Noes == s.noes.Lo, n.Noes == s.noes.Hi} {
				found[i] = found[i] || b
			}
		}
		if found != [4]bool{true, true, true, true} {
			t.Fatalf("%v: %v, %v", x, s, found)
		}
		if s.ayes.Lo < s.ayes.Hi && s.noes.Lo < s.noes.Hi {
			wide++
		}
	}
	if wide < 300 {
		t.Errorf("%d have wide bounds", wide)
	}
}

// P7.8: both tellers agree.
func TestP7_8Alike(t *testing.T) {
	d := dice(8)
	var seen [3]int
	for range 3000 {
		x, truth := d.vote(d.roll(1, api.MaxMembers), 0)
		n, o := counted(t, x, truth)
		seen[o]++
		want := sure{ayes: span(n.Ayes, n.Ayes), noes: span(n.Noes, n.Noes), allowed: []uint8{o}}
		want.witnesses[o] = truth
		s := sureOf(t, x)
		if len(s.doubts) != 0 || len(s.question) != 0 {
			t.Fatalf("%v: %v, though both agree", x, s)
		}
		s.doubts, s.question = nil, nil
		if !reflect.DeepEqual(s, want) {
			t.Fatalf("%v: %v, not %v", x, s, want)
		}
		holdProve(t, x, nil, true)
	}
	if slices.Min(seen[:]) < 300 {
		t.Errorf("%v are the outcomes", seen)
	}
	// Unless somebody clashes.
	holdNothingSure(t, written(3, 15, 12), api.ErrFail)
}

// P7.8: both tellers of a lobby change their lists with each other.
func TestP7_8Changed(t *testing.T) {
	d := dice(88)
	changed := 0
	for range 3000 {
		x := d.division(d.roll(1, 30), 6)
		want := sureOf(t, x)
		for i := range 3 {
			y := cloned(x)
			if i != 1 {
				y.Ayes[0], y.Ayes[1] = y.Ayes[1], y.Ayes[0]
			}
			if i != 0 {
				y.Noes[0], y.Noes[1] = y.Noes[1], y.Noes[0]
			}
			if s := sureOf(t, y); !reflect.DeepEqual(s, want) {
				t.Fatalf("%v: %v; %v: %v", x, want, y, s)
			}
			for _, o := range want.allowed {
				n, outcome := counted(t, x, want.witnesses[o])
				holdCount(t, y, want.witnesses[o], n, outcome)
			}
			for _, l := range [][]int{want.question, want.doubts, nil, {0}} {
				holdProve(t, y, l, tally.ProveAsk(x, l))
			}
			if !reflect.DeepEqual(x, y) {
				changed++
			}
		}
	}
	if changed < 4000 {
		t.Errorf("%d were changed", changed)
	}
	// Who clashes does so still.
	x := written(1, 15, 8)
	x.Ayes[0], x.Ayes[1] = x.Ayes[1], x.Ayes[0]
	holdClash(t, x, 1)
}

// P7.9: whatever the members of the least question voted.
func TestP7_9Asked(t *testing.T) {
	d := dice(9)
	answered, more := 0, 0
	for range 2500 {
		x := d.division(d.roll(1, 20), 5)
		s := sureOf(t, x)
		holdProve(t, x, s.question, true)
		holdProve(t, x, s.doubts, true)
		for _, truth := range truthsOf(x) {
			y := asked(x, s.question, truth)
			_, o := counted(t, y, truth)
			holdAllowed(t, y, o)
			holdAsk(t, y)
			answered += len(s.question)
		}
		// Without one of them it is not sure.
		for i := range s.question {
			less := slices.Delete(slices.Clone(s.question), i, i+1)
			holdProve(t, x, less, false)
			if !slices.ContainsFunc(truthsOf(x), func(truth []uint8) bool {
				l, _ := tally.Allowed(asked(x, less, truth))
				return len(l) > 1
			}) {
				t.Fatalf("%v: to ask %v is enough, too", x, less)
			}
			more++
		}
	}
	if answered < 5000 || more < 800 {
		t.Errorf("%d answers, %d members without whom it is not sure", answered, more)
	}
}

// P7.10: of all truths of divisions, and of all numbers.
func TestP7_10MoreVotes(t *testing.T) {
	type counts struct {
		n       tally.Numbers
		outcome uint8
	}
	compared, void := 0, 0
	hold := func(d tally.Division, l []counts) {
		for _, a := range l {
			for _, b := range l {
				if a.outcome != tally.Carried || b.n.Ayes < a.n.Ayes || b.n.Noes > a.n.Noes {
					continue
				}
				if b.outcome == tally.Lost {
					t.Fatalf("%v: %v, but %v", d, a, b)
				}
				if b.outcome == tally.Void {
					void++
				}
				compared++
			}
		}
	}
	d := dice(10)
	for range 1000 {
		x := d.division(d.roll(1, 20), 4)
		var l []counts
		for _, truth := range truthsOf(x) {
			n, o := counted(t, x, truth)
			l = append(l, counts{n, o})
		}
		hold(x, l)
	}
	for rule := range tally.Thirds + 1 {
		for i := range 24 {
			var l []counts
			for ayes := range 8 {
				for noes := range 8 - ayes {
					x, truth := voted(7, ayes, noes)
					x.Rule, x.Tie, x.Quorum, x.Need = rule, uint8(1+i%2), i/2%3*2, i/6
					n, o := counted(t, x, truth)
					l = append(l, counts{n, o})
				}
			}
			hold(tally.Division{Rule: rule, Need: i / 6}, l)
		}
	}
	if compared < 20000 || void < 100 {
		t.Errorf("%d were compared, %d are void", compared, void)
	}
}

// P7.11: two who are a pair may have any votes; and how many all count for.
func TestP7_11PairsAndProxies(t *testing.T) {
	d := dice(11)
	other, most := 0, 0
	for range 1500 {
		x := d.division(d.roll(2, 20), 5)
		rows := truthsOf(x)
		truth := rows[d.roll(0, len(rows)-1)]
		want, _ := counted(t, x, truth)
		for _, p := range x.Pairs {
			for i := range 9 {
				changed := slices.Clone(truth)
				changed[p.A], changed[p.B] = uint8(i%3), uint8(i/3)
				if !fits(x, changed) {
					continue
				}
				if n, _ := counted(t, x, changed); n != want {
					t.Fatalf("%v: %v counts %v, %v counts %v", x, truth, want, changed, n)
				}
				if !slices.Equal(truth, changed) {
					other++
				}
			}
		}
		for _, r := range rows {
			n, _ := counted(t, x, r)
			count := x.Members - 2*len(x.Pairs)
			if n.Ayes+n.Noes > count {
				t.Fatalf("%v: %v counts %v", x, r, n)
			}
			if n.Ayes+n.Noes == count {
				most++
			}
		}
	}
	if other < 500 || most < 500 {
		t.Errorf("%d pairs have other votes, %d times all count", other, most)
	}
}

// P7.11: those who are a pair need not be asked; and in which order pairs and
// proxies stand does not matter.
func TestP7_11PairsAreNotAsked(t *testing.T) {
	d := dice(111)
	paired := 0
	for range 2000 {
		x := d.division(d.roll(2, 20), 6)
		s := sureOf(t, x)
		for _, m := range s.doubts {
			if inPair(x, m) {
				paired++
				if slices.Contains(s.question, m) {
					t.Fatalf("Ask of %v: %v", x, s.question)
				}
			}
		}
		y := cloned(x)
		mix(&d, y.Pairs)
		mix(&d, y.Proxies)
		for i, p := range y.Pairs {
			if d.one(2) {
				y.Pairs[i] = pair(p.B, p.A)
			}
		}
		if other := sureOf(t, y); !reflect.DeepEqual(other, s) {
			t.Fatalf("%v: %v; %v: %v", x, s, y, other)
		}
	}
	if paired < 500 {
		t.Errorf("%d doubtful ones are in pairs", paired)
	}
}

// holdKnown holds that nothing is allowed that was not.
func holdKnown(t *testing.T, x, y tally.Division) (less bool) {
	t.Helper()
	before, after := sureOf(t, x), sureOf(t, y)
	for _, o := range after.allowed {
		if !slices.Contains(before.allowed, o) {
			t.Fatalf("%v: %v; %v: %v", x, before, y, after)
		}
	}
	for _, r := range [][2]tally.Range{{before.ayes, after.ayes}, {before.noes, after.noes}} {
		if !has(r[0], r[1].Lo) || !has(r[0], r[1].Hi) {
			t.Fatalf("%v: %v; %v: %v", x, before, y, after)
		}
	}
	return len(after.allowed) < len(before.allowed)
}

// P7.12: lists are mended, one member after the other, until all is known.
func TestP7_12BetterKnown(t *testing.T) {
	d := dice(12)
	got, lost, less, clashing := 0, 0, 0, 0
	for range 1500 {
		x := d.division(d.roll(1, 20), 6)
		for steps := 0; len(doubtsOf(x)) > 0 && steps < 60; steps++ {
			y := cloned(x)
			lists := listsOf(&y)
			m, i := d.roll(0, x.Members-1), d.roll(0, 3)
			on, other := slices.Contains(*lists[i], m), slices.Contains(*lists[i^1], m)
			if on == other {
				continue
			}
			*lists[i] = puts(*lists[i], m, other)
			if len(clashOf(y)) > 0 {
				clashing++
				continue
			}
			if on {
				lost++
			} else {
				got++
			}
			if holdKnown(t, x, y) {
				less++
			}
			x = y
		}
		if s := sureOf(t, x); len(s.doubts) == 0 && (len(s.allowed) != 1 || s.ayes.Lo != s.ayes.Hi || s.noes.Lo != s.noes.Hi) {
			t.Fatalf("%v: %v, though nobody is doubtful", x, s)
		}
	}
	if got < 500 || lost < 500 || less < 200 || clashing < 50 {
		t.Errorf("lists got %d members and lost %d; %d times less was allowed; %d times somebody would clash", got, lost, less, clashing)
	}
}

// P7.12: all changes of two members.
func TestP7_12SmallDivisions(t *testing.T) {
	changes := 0
	for marks := range 15 * 15 {
		for i, p := range pairings(2) {
			x := p(written(marks%15, marks/15))
			x.Rule, x.Need, x.Quorum = uint8((marks+i)%3), 2, marks%3
			for m := range 2 {
				for k := range 4 {
					y := cloned(x)
					lists := listsOf(&y)
					on, other := slices.Contains(*lists[k], m), slices.Contains(*lists[k^1], m)
					*lists[k] = puts(*lists[k], m, other)
					if on == other || len(clashOf(y)) > 0 {
						continue
					}
					holdKnown(t, x, y)
					changes++
				}
			}
		}
	}
	if changes < 4000 {
		t.Errorf("%d changes", changes)
	}
}

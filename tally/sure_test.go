package tally_test

import (
	"slices"
	"testing"
	"time"

	"palantype/api"
	"palantype/tally"
)

// holdDoubts, holdBounds, holdAllowed, holdWitness and holdAsk hold what these
// calls return of a division in which nobody clashes, with not too many doubtful
// members.
func holdDoubts(t *testing.T, d tally.Division, want ...int) {
	t.Helper()
	if l, e := tally.Doubts(d); !slices.Equal(l, want) || e != api.OK {
		t.Fatalf("Doubts of %v: %v, %v, not %v", d, l, e, want)
	}
}

func holdBounds(t *testing.T, d tally.Division, ayes, noes tally.Range) {
	t.Helper()
	if a, n, e := tally.Bounds(d); a != ayes || n != noes || e != api.OK {
		t.Fatalf("Bounds of %v: %v, %v, %v, not %v, %v", d, a, n, e, ayes, noes)
	}
}

func holdAllowed(t *testing.T, d tally.Division, want ...uint8) {
	t.Helper()
	if l, e := tally.Allowed(d); !slices.Equal(l, want) || e != api.OK {
		t.Fatalf("Allowed of %v: %v, %v, not %v", d, l, e, want)
	}
}

func holdWitness(t *testing.T, d tally.Division, outcome uint8, want []uint8) {
	t.Helper()
	if want == nil {
		holdNoWitness(t, d, outcome, api.ErrNone)
		return
	}
	if l, e := tally.Witness(d, outcome); !slices.Equal(l, want) || e != api.OK {
		t.Fatalf("Witness of %v, %v: %v, %v, not %v", d, outcome, l, e, want)
	}
}

func holdAsk(t *testing.T, d tally.Division, want ...int) {
	t.Helper()
	if l, e := tally.Ask(d); !slices.Equal(l, want) || e != api.OK {
		t.Fatalf("Ask of %v: %v, %v, not %v", d, l, e, want)
	}
}

// holdProve holds ProveAsk of the members.
func holdProve(t *testing.T, d tally.Division, members []int, want bool) {
	t.Helper()
	if tally.ProveAsk(d, members) != want {
		t.Fatalf("ProveAsk of %v, %v, is not %v", d, members, want)
	}
}

// holdSure holds all that is sure of a division against what the chapter defines;
// it returns this.
func holdSure(t *testing.T, d tally.Division) answers {
	t.Helper()
	a, doubts := answersOf(d), doubtsOf(d)
	holdDoubts(t, d, doubts...)
	ayes, noes := a.bounds()
	holdBounds(t, d, ayes, noes)
	holdAllowed(t, d, a.allowed()...)
	for outcome := range tally.Void + 1 {
		holdWitness(t, d, outcome, a.witness(outcome))
	}
	holdAsk(t, d, a.question(doubts)...)
	return a
}

// P7.3: the example of the chapter, and others.
func TestP7_3Doubts(t *testing.T) {
	holdDoubts(t, lobbies(), 2, 3)
	holdDoubts(t, tally.Division{Members: 40, Tie: tally.No})
	holdDoubts(t, written(sureMarks...))
	holdDoubts(t, written(unsureMarks...), 0, 1, 2, 3, 4, 5, 6, 7)
	// There is no limit of how many are doubtful.
	holdDoubts(t, written(slices.Repeat(unsureMarks, 5)...), all(40)...)
	// Who counts for nothing is doubtful all the same.
	d := lobbies()
	d.Pairs = []tally.Pair{pair(2, 4)}
	holdDoubts(t, d, 2, 3)
	// Nobody is told where somebody clashes.
	for _, d := range []tally.Division{written(15), written(0, 15, 1), full(), written(slices.Repeat([]int{1, 15}, 20)...)} {
		if l, e := tally.Doubts(d); len(l) != 0 || e != api.ErrFail {
			t.Fatalf("Doubts of %v: %v, %v", d, l, e)
		}
	}
}

// P7.3: who has different votes in truths that fit is doubtful, for all marks.
func TestP7_3DoubtsByTruths(t *testing.T) {
	for marks := range 15 * 15 {
		d := written(marks%15, marks/15)
		var want []int
		for m := range 2 {
			votes := map[uint8]bool{}
			for i := range 9 {
				truth := []uint8{uint8(i % 3), uint8(i / 3)}
				if _, _, e := tally.Count(d, truth); e == api.OK {
					votes[truth[m]] = true
				}
			}
			if len(votes) > 1 {
				want = append(want, m)
			}
		}
		holdDoubts(t, d, want...)
	}
}

// P7.3: the example of the chapter, and others.
func TestP7_3Bounds(t *testing.T) {
	holdBounds(t, lobbies(), span(2, 4), span(2, 3))
	holdBounds(t, tally.Division{Members: 40, Tie: tally.No}, span(0, 0), span(0, 0))
	d, _ := voted(40, 30, 10)
	holdBounds(t, d, span(30, 30), span(10, 10))
	holdBounds(t, written(1), span(0, 1), span(0, 0))
	holdBounds(t, written(8), span(0, 0), span(0, 1))
	holdBounds(t, written(6), span(0, 1), span(0, 1))
	holdBounds(t, written(7), span(1, 1), span(0, 0))
	holdBounds(t, written(14), span(0, 0), span(1, 1))
	holdBounds(t, written(5, 5, 5, 5, 5, 5, 5, 5), span(0, 8), span(0, 8))
	// A vote that is doubtful may count for two, or for nothing.
	d = written(1, 0, 4)
	d.Proxies = []tally.Proxy{proxy(0, 1)}
	holdBounds(t, d, span(0, 2), span(0, 1))
	d.Pairs = []tally.Pair{pair(0, 2)}
	holdBounds(t, d, span(0, 0), span(0, 0))
	// The one who is represented has a vote, or the holder's.
	d = written(3, 4)
	d.Proxies = []tally.Proxy{proxy(0, 1)}
	holdBounds(t, d, span(1, 2), span(0, 1))
}

// P7.4: the example of the chapter, and others.
func TestP7_4Allowed(t *testing.T) {
	holdAllowed(t, lobbies(), tally.Lost, tally.Carried)
	holdWitness(t, lobbies(), tally.Lost, row("AA--NN"))
	holdWitness(t, lobbies(), tally.Carried, row("AA-ANN"))
	holdWitness(t, lobbies(), tally.Void, nil)
	d := lobbies()
	d.Quorum = 6
	holdAllowed(t, d, tally.Lost, tally.Carried, tally.Void)
	holdWitness(t, d, tally.Lost, row("AAA-NN"))
	holdWitness(t, d, tally.Carried, row("AAAANN"))
	holdWitness(t, d, tally.Void, row("AA--NN"))
	d.Quorum = 7
	holdAllowed(t, d, tally.Void)
	holdWitness(t, d, tally.Lost, nil)
	holdWitness(t, d, tally.Carried, nil)
	empty := tally.Division{Members: 3, Tie: tally.Aye}
	holdAllowed(t, empty, tally.Carried)
	holdWitness(t, empty, tally.Carried, row("---"))
	empty.Rule = tally.Thirds
	holdAllowed(t, empty, tally.Lost)
	holdWitness(t, empty, tally.Lost, row("---"))
}

// P7.4: of several witnesses the least one, by the first member that differs.
func TestP7_4WitnessLeast(t *testing.T) {
	d := written(5, 5, 5)
	d.Rule, d.Need = tally.Absolute, 2
	holdWitness(t, d, tally.Carried, row("-AA"))
	holdWitness(t, d, tally.Lost, row("---"))
	d.Quorum = 3
	holdWitness(t, d, tally.Carried, row("AAA"))
	holdWitness(t, d, tally.Lost, row("ANN"))
	holdWitness(t, d, tally.Void, row("---"))
	d.Rule, d.Quorum, d.Proxies = tally.Simple, 2, []tally.Proxy{proxy(2, 1)}
	holdWitness(t, d, tally.Carried, row("--A")) // the proxy counts
	holdWitness(t, d, tally.Lost, row("--N"))
	d.Rule, d.Quorum, d.Proxies = tally.Absolute, 3, nil
	d.Ayes[1], d.Pairs = []int{0}, []tally.Pair{pair(2, 1)} // 0 has voted Aye
	d.Need, d.Quorum = 1, 1
	holdWitness(t, d, tally.Carried, row("A--"))
	holdWitness(t, d, tally.Void, nil)
}

// P7.4: what is no outcome, ahead of all but a division that is not valid.
func TestP7_4WitnessRefuses(t *testing.T) {
	for _, outcome := range []uint8{3, 4, 100, 255} {
		for _, d := range []tally.Division{lobbies(), full(), written(15), written(all(10)...), written(slices.Repeat([]int{1}, 9)...)} {
			holdNoWitness(t, d, outcome, api.ErrRange)
		}
		holdNoWitness(t, tally.Division{}, outcome, api.ErrArg)
	}
}

// P7.3, P7.4 and P7.5: at most eight are doubtful.
func TestP7_3P7_4P7_5Limit(t *testing.T) {
	eight := slices.Repeat([]int{1}, 8)
	holdSure(t, written(eight...))
	nine := written(slices.Repeat([]int{1}, 9)...)
	holdNothingSure(t, nine, api.ErrLimit)
	holdDoubts(t, nine, all(9)...)
	holdNothingSure(t, written(append(slices.Repeat([]int{0, 3, 12}, 10), slices.Repeat(unsureMarks, 2)[:9]...)...), api.ErrLimit)
	holdNothingSure(t, written(slices.Repeat([]int{6}, 40)...), api.ErrLimit)
	holdSure(t, written(append(slices.Repeat([]int{0, 3, 12, 7}, 8), eight...)...))
	// Also if the outcome does not depend on them.
	nine.Quorum = 40
	holdNothingSure(t, nine, api.ErrLimit)
	holdProve(t, nine, all(9), false)
	// That somebody clashes comes first.
	nine.Ayes[1], nine.Noes = []int{8}, [2][]int{{8}, {8}}
	holdNothingSure(t, nine, api.ErrFail)
	holdNothingSure(t, written(slices.Repeat([]int{1, 15}, 20)...), api.ErrFail)
	holdNothingSure(t, full(), api.ErrFail)
}

// P7.5: the example of the chapter, and others.
func TestP7_5Ask(t *testing.T) {
	holdAsk(t, lobbies(), 3)
	holdAsk(t, tally.Division{Members: 9, Tie: tally.Aye})
	d := written(3, 3, 12, 1, 4, 5) // two to one, and three doubtful
	holdAsk(t, d, 3, 4, 5)
	d.Rule, d.Need = tally.Absolute, 3
	holdAsk(t, d, 3, 5)
	d.Need = 2
	holdAsk(t, d)
	d.Quorum = 4
	holdAsk(t, d, 3, 4, 5)
	d.Pairs = []tally.Pair{pair(5, 0)}
	holdAsk(t, d, 3, 4)
	// Whoever votes as the holder would have does not matter.
	d = written(3, 1, 12)
	d.Proxies = []tally.Proxy{proxy(0, 1)}
	holdAsk(t, d)
	d.Proxies = []tally.Proxy{proxy(2, 1)}
	holdAsk(t, d, 1)
	// The holder is asked, not the one who is represented.
	d = written(1, 0, 12)
	d.Proxies = []tally.Proxy{proxy(0, 1)}
	holdAsk(t, d, 0)
	// All doubtful ones are asked, or none.
	for count := 1; count <= api.MaxDoubts; count++ {
		d := written(slices.Repeat([]int{5}, count)...)
		holdAsk(t, d, all(count)...)
		d.Quorum = count + 1
		holdAsk(t, d)
		d.Quorum = 1
		holdAsk(t, d, all(count)...)
	}
}

// P7.5: what ProveAsk says of the example, and of what cannot be proved.
func TestP7_5ProveAsk(t *testing.T) {
	for _, l := range [][]int{{3}, {2, 3}} {
		holdProve(t, lobbies(), l, true)
	}
	for _, l := range [][]int{nil, {}, {2}, {3, 2}, {3, 3}, {2, 3, 3}, {2, 2, 3}, {0, 3}, {3, 4}, {3, 5}, {1, 2, 3}, {3, 6}, {-1, 3}, {3, 40}, {3, 1 << 40}, {-1 << 63, 3}, {3, 1<<63 - 1}, slices.Repeat([]int{3}, 1000), all(1000)} {
		holdProve(t, lobbies(), l, false)
	}
	for _, d := range []tally.Division{{}, written(15), full(), {Members: 41, Tie: tally.No}, written(1, 15)} {
		for _, l := range [][]int{nil, {0}, {1}} {
			holdProve(t, d, l, false)
		}
	}
	// Nobody has to be asked; but whoever is doubtful may be.
	d := lobbies()
	d.Quorum = 40
	for _, l := range [][]int{nil, {}, {2}, {3}, {2, 3}} {
		holdProve(t, d, l, true)
	}
	for _, l := range [][]int{{0}, {3, 2}, {4}, {2, 3, 4}} {
		holdProve(t, d, l, false)
	}
}

// holdProofs holds ProveAsk of all sets of members, and of some other lists.
func holdProofs(t *testing.T, d tally.Division, a answers) (proved int) {
	t.Helper()
	doubts := doubtsOf(d)
	for _, set := range setsOf(all(d.Members)) {
		want := !slices.ContainsFunc(set, func(m int) bool { return !slices.Contains(doubts, m) }) && a.decide(set)
		holdProve(t, d, set, want)
		if want {
			proved++
		}
		if len(set) > 0 {
			slices.Reverse(set)
			holdProve(t, d, append(set, set[len(set)-1]), false)
		}
	}
	return proved
}

// P7.3, P7.4 and P7.5: all small divisions.
func TestP7_3P7_4P7_5SmallDivisions(t *testing.T) {
	var allowed, asked [4]int
	refused, proved := 0, 0
	for d := range smallDivisions {
		if len(clashOf(d)) > 0 {
			holdNothingSure(t, d, api.ErrFail)
			refused++
			continue
		}
		a := holdSure(t, d)
		allowed[len(a.allowed())]++
		asked[len(a.question(doubtsOf(d)))]++
		proved += holdProofs(t, d, a)
	}
	if slices.Min(allowed[1:]) < 1000 || slices.Min(asked[:]) < 500 || refused < 5000 || proved < 50000 {
		t.Errorf("%v allow so many outcomes, in %v so many are asked; %d are refused, %d lists proved", allowed, asked, refused, proved)
	}
}

// P7.3, P7.4 and P7.5: larger ones.
func TestP7_3P7_4P7_5Many(t *testing.T) {
	d := dice(5)
	var asked [6]int
	var witnessed [3]int
	proved, fewer := 0, 0
	for range 5000 {
		x := d.division(d.roll(1, 9), 5)
		a := holdSure(t, x)
		question := a.question(doubtsOf(x))
		asked[len(question)]++
		for _, o := range a.allowed() {
			witnessed[o]++
		}
		if len(question) > 0 && len(question) < len(doubtsOf(x)) {
			fewer++
		}
		if x.Members < 7 {
			proved += holdProofs(t, x, a)
		}
	}
	if slices.Min(asked[:5]) < 20 || slices.Min(witnessed[:]) < 300 || proved < 5000 || fewer < 200 {
		t.Errorf("in %v so many are asked, in %d not all; %v are witnessed, %d lists proved", asked, fewer, witnessed, proved)
	}
}

// P7.3, P7.4 and P7.5: as large as may be, in a time that is not long.
func TestP7_3P7_4P7_5Large(t *testing.T) {
	d := dice(55)
	var spent time.Duration
	asked := 0
	for i := range 30 {
		marks := slices.Repeat([]int{5, 6, 9, 10}, 2)
		for len(marks) < api.MaxMembers {
			marks = append(marks, sureMarks[d.roll(0, len(sureMarks)-1)])
		}
		mix(&d, marks)
		x := written(marks...)
		for i%3 > 0 && len(x.Proxies) < 5 {
			x.Pairs, x.Proxies = nil, nil
			d.arrange(&x)
		}
		x.Rule, x.Tie, x.Need = uint8(i%3), uint8(1+i%2), 20
		before := time.Now()
		tally.Ask(x)
		tally.Bounds(x)
		tally.Allowed(x)
		tally.ProveAsk(x, doubtsOf(x))
		spent += time.Since(before)
		a := holdSure(t, x)
		asked += len(a.question(doubtsOf(x)))
	}
	if asked < 30 {
		t.Errorf("%d are asked", asked)
	}
	if spent > 10*time.Second {
		t.Errorf("it took %v", spent)
	}
}

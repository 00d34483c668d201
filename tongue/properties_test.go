package tongue_test

import (
	"slices"
	"testing"

	"palantype/api"
	"palantype/tongue"
)

// matched returns what Match does of valid texts.
func matched(t *testing.T, l, r text) (steps, int) {
	t.Helper()
	list, cost, e := tongue.Match(l, r)
	if e != api.OK {
		t.Fatalf("Match of %v, %v: %v", l, r, e)
	}
	return list, cost
}

// cost returns what Cost does of a match.
func cost(t *testing.T, l, r text, list steps) int {
	t.Helper()
	c, e := tongue.Cost(l, r, list)
	if e != api.OK {
		t.Fatalf("Cost of %v, %v by %v: %v", l, r, list, e)
	}
	return c
}

// counted returns what Counts does of a match.
func counted(t *testing.T, l, r text, list steps, lead []bool) []tongue.Piece {
	t.Helper()
	p, e := tongue.Counts(l, r, list, lead)
	if e != api.OK {
		t.Fatalf("Counts of %v, %v by %v, %v: %v", l, r, list, lead, e)
	}
	return p
}

// behind returns what Behind does of a valid speech.
func behind(t *testing.T, s tongue.Speech, most int) ([]tongue.Range, bool) {
	t.Helper()
	times, keeps, e := tongue.Behind(s, most)
	if e != api.OK {
		t.Fatalf("Behind of %v, %d: %v", s, most, e)
	}
	return times, keeps
}

// P8.7: no match of small texts costs less than the best one, or than what the
// table of Proof proves.
func TestP8_7AllMatches(t *testing.T) {
	d := dice(7)
	dearer := 0
	for range 150 {
		l, r := d.pair(4)
		best, least := matched(t, l, r)
		if cost(t, l, r, best) != least || !tongue.ProveCost(l, r, least, proofOf(t, l, r)) {
			t.Fatalf("Match of %v, %v: %v, %d", l, r, best, least)
		}
		for _, list := range matches(len(l), len(r)) {
			c := cost(t, l, r, list)
			if c < least {
				t.Fatalf("Match of %v, %v: %v, %d; but %v costs %d", l, r, best, least, list, c)
			}
			if c > least {
				dearer++
			}
		}
	}
	if dearer < 5000 {
		t.Errorf("%d matches cost more", dearer)
	}
}

// P8.7: whatever a table proves is at most what each match costs.
func TestP8_7AnyTable(t *testing.T) {
	d := dice(77)
	proved, equal := 0, 0
	for range 1500 {
		l, r := d.pair(6)
		_, least := matched(t, l, r)
		p := d.rightTable(t, l, r)
		bound := p[len(l)][len(r)]
		if !tongue.ProveCost(l, r, bound, p) {
			t.Fatalf("ProveCost of %v, %v, %v, %v", l, r, bound, p)
		}
		if bound > least {
			t.Fatalf("%v, %v: %d is proved, but the best match costs %d", l, r, bound, least)
		}
		list := d.match(l, r)
		if c := cost(t, l, r, list); c < bound {
			t.Fatalf("%v, %v: %d is proved, but %v costs %d", l, r, bound, list, c)
		}
		proved += bound
		if bound == least {
			equal++
		}
		// With a greater last number it is right no longer, or still below.
		p[len(l)][len(r)] = least + 1
		if tongue.ProveCost(l, r, least+1, p) {
			t.Fatalf("%v, %v: %v proves %d, but the best match costs %d", l, r, p, least+1, least)
		}
	}
	if proved < 5000 || equal < 300 {
		t.Errorf("%d is proved, %d times it is what the best match costs", proved, equal)
	}
}

// rightTable throws a table that is right: each number is at most what steps allow.
func (d *dice) rightTable(t *testing.T, l, r text) tongue.Table {
	t.Helper()
	p := flat(l, r)
	top := d.roll(1, 80)
	for i, row := range p {
		for k := range row {
			row[k] = d.roll(0, top)
			if i == 0 && k == 0 {
				row[k] = 0
			}
			for _, s := range kinds() {
				if i >= s.Left && k >= s.Right {
					row[k] = min(row[k], p[i-s.Left][k-s.Right]+cost(t, l[i-s.Left:i], r[k-s.Right:k], steps{s}))
				}
			}
		}
	}
	return p
}

// P8.8: by a match each sentence is in one step, and in the report that counts each
// step is, once: with all of one side.
func TestP8_8EachOnce(t *testing.T) {
	d := dice(8)
	fromLeft, fromRight := 0, 0
	for range 3000 {
		l, r := d.pair(api.MaxSentences)
		list, _ := matched(t, l, r)
		if d.one(2) {
			list = d.match(l, r)
			cost(t, l, r, list)
		}
		report := counted(t, l, r, list, d.leads(l))
		i, k := 0, 0
		for _, s := range list {
			ofLeft, ofRight := spread(left, i, s.Left), spread(right, k, s.Right)
			i, k = i+s.Left, k+s.Right
			switch {
			case len(ofLeft) > 0 && begins(report, ofLeft):
				report = report[len(ofLeft):]
				fromLeft++
			case len(ofRight) > 0 && begins(report, ofRight):
				report = report[len(ofRight):]
				fromRight++
			default:
				t.Fatalf("%v, %v by %v: %v is missing, or %v; behind it is %v", l, r, list, ofLeft, ofRight, report)
			}
		}
		if i != len(l) || k != len(r) || len(report) > 0 {
			t.Fatalf("%v, %v by %v: %d, %d are taken, and %v is left", l, r, list, i, k, report)
		}
	}
	if fromLeft < 5000 || fromRight < 5000 {
		t.Errorf("%d steps count from the left, %d from the right", fromLeft, fromRight)
	}
}

// spread returns so many pieces, from the index on.
func spread(piece func(int) tongue.Piece, from, count int) []tongue.Piece {
	var l []tongue.Piece
	for i := range count {
		l = append(l, piece(from+i))
	}
	return l
}

// begins says whether the list begins with the other one.
func begins(list, with []tongue.Piece) bool {
	return len(list) >= len(with) && slices.Equal(list[:len(with)], with)
}

// P8.8: with all Leads true it is the left text, but for steps that have no left
// sentence; with all false the right one, but for those that have no right one.
func TestP8_8AllLeads(t *testing.T) {
	d := dice(88)
	added := 0
	for range 2000 {
		l, r := d.pair(api.MaxSentences)
		list := d.match(l, r)
		for _, leads := range []bool{true, false} {
			report := counted(t, l, r, list, slices.Repeat([]bool{leads}, len(l)))
			var own, others []tongue.Piece
			for _, p := range report {
				if leads == (p.Side == 0) {
					own = append(own, p)
				} else {
					others = append(others, p)
				}
			}
			want := spread(left, 0, len(l))
			if !leads {
				want = spread(right, 0, len(r))
			}
			lonely := 0 // steps that have no sentence of that side
			for _, s := range list {
				if leads && s.Left == 0 || !leads && s.Right == 0 {
					lonely++
				}
			}
			if !slices.Equal(own, want) || len(others) != lonely {
				t.Fatalf("Counts of %v, %v by %v, all %v: %v", l, r, list, leads, report)
			}
			added += lonely
		}
	}
	if added < 2000 {
		t.Errorf("%d steps have one side", added)
	}
}

// P8.9: with both texts exchanged the best match costs as much; and so does each
// match.
func TestP8_9Turned(t *testing.T) {
	d := dice(9)
	for range 2000 {
		l, r := d.pair(api.MaxSentences)
		_, c := matched(t, l, r)
		if _, turned := matched(t, r, l); turned != c {
			t.Fatalf("Match of %v, %v: %d, and exchanged %d", l, r, c, turned)
		}
		list := d.match(l, r)
		var exchanged steps
		for _, s := range list {
			exchanged = append(exchanged, step(s.Right, s.Left))
		}
		if one, other := cost(t, l, r, list), cost(t, r, l, exchanged); one != other {
			t.Fatalf("Cost of %v, %v by %v: %d, and exchanged %d", l, r, list, one, other)
		}
		if !tongue.ProveCost(r, l, c, proofOf(t, r, l)) {
			t.Fatalf("Proof of %v, %v does not prove %d", r, l, c)
		}
	}
}

// P8.10: a text and itself match one by one, for nothing; and there is no
// difference.
func TestP8_10TheSame(t *testing.T) {
	d := dice(10)
	for i := range 1000 {
		l := d.text(i%(api.MaxSentences+1), 12)
		if d.one(4) { // sentences that are all the same, or have nothing
			l = slices.Repeat(text{says(d.roll(1, 9), d.marks(2, 5)...)}, len(l))
		}
		other := slices.Clone(l)
		for k := range other { // Sizes do not matter
			other[k].Size = d.roll(1, api.MaxSize)
		}
		one := slices.Repeat(steps{step(1, 1)}, len(l))
		for _, r := range []text{l, other} {
			holdMatch(t, l, r, one, 0)
			holdDifferences(t, l, r, one)
		}
		holdLevel(t, l, l, one, beginsOf(l), sum(l), 0)
	}
}

// beginsOf returns where sentences begin that follow each other.
func beginsOf(l text) []int {
	var begins []int
	for i := range l {
		begins = append(begins, sum(l[:i]))
	}
	return begins
}

// P8.10: if nothing is left of one text, a match costs 3 for each sentence of the
// other one, and 2 for each of its marks.
func TestP8_10NothingLeft(t *testing.T) {
	d := dice(110)
	for i := range 500 {
		l := d.text(i%(api.MaxSentences+1), 12)
		want := 3 * len(l)
		for _, s := range l {
			want += 2 * len(s.Marks)
		}
		holdMatch(t, l, nil, slices.Repeat(steps{step(1, 0)}, len(l)), want)
		holdMatch(t, nil, l, slices.Repeat(steps{step(0, 1)}, len(l)), want)
		holdProof(t, l, nil, want)
		holdProof(t, nil, l, want)
	}
}

// P8.11: with one sentence more at the end of a text the best match costs at most 3
// and twice its marks more.
func TestP8_11OneMore(t *testing.T) {
	d := dice(11)
	just, less := 0, 0
	for range 3000 {
		l, r := d.pair(api.MaxSentences - 1)
		_, before := matched(t, l, r)
		s := says(d.roll(1, 9), d.marks(6, 12)...)
		most := before + 3 + 2*len(s.Marks)
		for _, pair := range [][2]text{{append(slices.Clone(l), s), r}, {l, append(slices.Clone(r), s)}} {
			_, c := matched(t, pair[0], pair[1])
			switch {
			case c > most:
				t.Fatalf("Match of %v, %v: %d; with %v more %d", l, r, before, s, c)
			case c == most:
				just++
			default:
				less++
			}
		}
	}
	if just < 300 || less < 3000 {
		t.Errorf("%d cost as much as they may, %d less", just, less)
	}
}

// needs throws what is needed for each sentence.
func (d *dice) needs(s tongue.Speech) []int {
	var l []int
	for _, r := range s.Needs {
		l = append(l, d.roll(r.Lo, r.Hi))
	}
	return l
}

// P8.12: whatever is needed, the interpreter is done within the times, which rise;
// and if it keeps up, it is never further behind than Most.
func TestP8_12AnyTime(t *testing.T) {
	d := dice(112)
	up, inside := 0, 0
	for range 2000 {
		s := d.speech(d.roll(0, api.MaxSentences), d.roll(1, 20))
		most := d.roll(0, 100)
		times, keeps := behind(t, s, most)
		for i := range times {
			if times[i].Lo > times[i].Hi || i > 0 && (times[i].Lo <= times[i-1].Lo || times[i].Hi <= times[i-1].Hi) {
				t.Fatalf("Behind of %v: %v", s, times)
			}
		}
		for range 5 {
			needs := d.needs(s)
			for i, done := range interpret(s.Starts, s.Lag, needs) {
				if done < times[i].Lo || done > times[i].Hi {
					t.Fatalf("Behind of %v: %v, but by %v it is done with %d at %d", s, times, needs, i, done)
				}
				if next := s.Starts[min(i+1, len(s.Starts)-1)]; keeps && done > next+most {
					t.Fatalf("Behind of %v, %d keeps up, but by %v it is done with %d at %d", s, most, needs, i, done)
				}
				if done > times[i].Lo && done < times[i].Hi {
					inside++
				}
			}
		}
		if keeps {
			up++
		}
	}
	if up < 500 || up > 1700 || inside < 20000 {
		t.Errorf("%d keep up, %d times are inside", up, inside)
	}
}

// P8.12: both ends of the times are reached.
func TestP8_12Ends(t *testing.T) {
	d := dice(1112)
	for range 1000 {
		s := d.speech(d.roll(0, api.MaxSentences), d.roll(1, 20))
		times, _ := behind(t, s, 0)
		var lo, hi []int
		for _, r := range s.Needs {
			lo, hi = append(lo, r.Lo), append(hi, r.Hi)
		}
		soonest, latest := interpret(s.Starts, s.Lag, lo), interpret(s.Starts, s.Lag, hi)
		for i, r := range times {
			if r != span(soonest[i], latest[i]) {
				t.Fatalf("Behind of %v: %v, not %v to %v", s, times, soonest, latest)
			}
		}
	}
}

// P8.12: with a greater Lag, or greater Needs, nothing is done sooner.
func TestP8_12Greater(t *testing.T) {
	d := dice(11112)
	later := 0
	for range 2000 {
		s := d.speech(d.roll(0, api.MaxSentences), d.roll(1, 20))
		most := d.roll(0, 60)
		before, kept := behind(t, s, most)
		s.Needs = slices.Clone(s.Needs)
		if d.one(2) {
			s.Lag += d.roll(0, 20)
		}
		for range d.roll(0, 2*len(s.Needs)) {
			r := &s.Needs[d.roll(0, len(s.Needs)-1)]
			r.Hi += d.roll(0, 1)
			r.Lo = min(r.Lo+d.roll(0, 1), r.Hi)
		}
		after, keeps := behind(t, s, most)
		if keeps && !kept {
			t.Fatalf("Behind of %v, %d keeps up, but did not with less", s, most)
		}
		for i := range before {
			if after[i].Lo < before[i].Lo || after[i].Hi < before[i].Hi {
				t.Fatalf("Behind of %v: %v, but with less %v", s, after, before)
			}
			if after[i] != before[i] {
				later++
			}
		}
	}
	if later < 5000 {
		t.Errorf("%d sentences are done later", later)
	}
}

// P8.13: lines are at least the Sizes of either text, and both columns with what is
// blank are twice the lines.
func TestP8_13Level(t *testing.T) {
	d := dice(13)
	blanks := 0
	for range 3000 {
		l, r := d.pair(api.MaxSentences)
		list := d.match(l, r)
		begins, lines, blank, e := tongue.Level(l, r, list)
		if e != api.OK || len(begins) != len(list) {
			t.Fatalf("Level of %v, %v by %v: %v, %v", l, r, list, begins, e)
		}
		if lines < sum(l) || lines < sum(r) || sum(l)+sum(r)+blank != 2*lines || blank < 0 {
			t.Fatalf("Level of %v, %v by %v: %d lines, %d blank", l, r, list, lines, blank)
		}
		// Each step begins behind the longer side of the one before.
		i, k, line := 0, 0, 0
		for at, s := range list {
			if begins[at] != line {
				t.Fatalf("Level of %v, %v by %v: %v", l, r, list, begins)
			}
			line += max(sum(l[i:i+s.Left]), sum(r[k:k+s.Right]))
			i, k = i+s.Left, k+s.Right
		}
		if line != lines {
			t.Fatalf("Level of %v, %v by %v: %d lines, not %d", l, r, list, lines, line)
		}
		blanks += blank
	}
	if blanks < 10000 {
		t.Errorf("%d are blank", blanks)
	}
}

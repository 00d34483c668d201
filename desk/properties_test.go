package desk_test

import (
	"iter"
	"slices"
	"strings"
	"testing"

	"palantype/api"
	"palantype/desk"
	"palantype/paper"
	"palantype/tally"
	"palantype/volume"
)

// report returns the report.
func report(t *testing.T, lines []string) string {
	t.Helper()
	text, e := desk.Report(lines)
	if e != api.OK {
		t.Fatalf("Report of %q: %v", lines, e)
	}
	return text
}

// look returns what a reader is shown.
func look(t *testing.T, lines []string, year int, may []int) []string {
	t.Helper()
	l, e := desk.Shown(lines, year, may)
	if e != api.OK {
		t.Fatalf("Shown of %q, %d, %v: %v", lines, year, may, e)
	}
	return l
}

// printOf returns the print of the volume of a state.
func printOf(t *testing.T, s desk.State) []volume.Place {
	t.Helper()
	places, e := volume.Print(s.Volume, s.Errata)
	if e != api.OK {
		t.Fatalf("Print of %+v: %v", s, e)
	}
	return places
}

// sessions gives so many sessions, of which some have a volume that is bound.
func sessions(seed dice, count int) iter.Seq[[]string] {
	return func(yield func([]string) bool) {
		d := seed
		for i := range count {
			lines := d.session(d.roll(1, 58))
			if i%3 == 0 {
				lines = d.bound(d.roll(20, 58))
			}
			if !yield(lines) {
				return
			}
		}
	}
}

// accepted returns the lines that Run accepts.
func accepted(t *testing.T, lines []string) []string {
	t.Helper()
	_, errors := run(t, lines)
	var l []string
	for i, line := range lines {
		if errors[i] == api.OK {
			l = append(l, line)
		}
	}
	return l
}

// P12.7: the accepted lines alone are all accepted, and end in the same.
func TestP12_7Replayed(t *testing.T) {
	left := 0
	for lines := range sessions(7, 600) {
		s, _ := run(t, lines)
		alone := accepted(t, lines)
		holdState(t, alone, s)
		holdReport(t, alone, report(t, lines))
		left += len(lines) - len(alone)
	}
	if left < 3000 {
		t.Errorf("%d lines were refused", left)
	}
	s, _ := run(t, sitting())
	holdState(t, slices.Delete(sitting(), 11, 12), s)
}

// link is one of Cites, with what it is of.
type link struct {
	text        string
	anchor, day int
}

// P12.8: once it is bound, no line changes the print, and each citation is of the same,
// ever after.
func TestP12_8Bound(t *testing.T) {
	d := dice(8)
	followed, errata := 0, 0
	for range 150 {
		lines := d.bound(d.roll(20, 58))
		if d.one(2) {
			s, _ := ran(lines)
			lines = append(lines, d.entries(s, []string{"change", "remove", "add", "day"})...)
		}
		at := slices.IndexFunc(lines, func(line string) bool { return strings.HasPrefix(line, "bind") })
		first, _ := run(t, lines[:at+1])
		if !first.Bound {
			t.Fatalf("%q do not bind", lines[:at+1])
		}
		print := printOf(t, first)
		var links []link
		for n := at + 1; n <= len(lines); n++ {
			s, _ := run(t, lines[:n])
			if l := printOf(t, s); !slices.Equal(l, print) || s.Volume.Bound != first.Volume.Bound {
				t.Fatalf("%q print %v, and with %q %v", lines[:at+1], print, lines[at+1:n], l)
			}
			if len(s.Cites) > len(links) {
				links = append(links, linkOf(t, s, lines[n-1]))
			}
			for i, x := range links {
				anchor, day, e := volume.Resolve(s.Volume, s.Errata, s.Cites[i])
				if s.Cites[i] != x.text || anchor != x.anchor || day != x.day || e != api.OK {
					t.Fatalf("%q: the citation %v is %q, of %d, %d, %v", lines[:n], x, s.Cites[i], anchor, day, e)
				}
				followed++
			}
			errata += len(s.Errata)
		}
	}
	if followed < 5000 || errata < 5000 {
		t.Errorf("%d are followed, by %d errata", followed, errata)
	}
}

// linkOf returns the last one of Cites, of what the line says.
func linkOf(t *testing.T, s desk.State, line string) link {
	t.Helper()
	_, n, _, is := readOf(line)
	if !is || !strings.HasPrefix(line, "cite ") {
		t.Fatalf("%q makes a citation", line)
	}
	x := link{s.Cites[len(s.Cites)-1], n[0], s.Volume.Bound}
	if n[1] == int(volume.Anchored) {
		x.day = s.Day
	}
	return x
}

// P12.8: what would change the print is refused on the day on which it was bound, and is
// accepted on the next one, when it changes only what is read.
func TestP12_8DayBound(t *testing.T) {
	lines := split("day 3;say 1 one;say 2 two;bind 1 1 10;cite 2 0;cite 2 1;cite 2 2")
	print := printOf(t, made(t, lines...))
	amend := []string{"change 1 1 " + strings.Repeat("x", 200), "remove 2 1", "add 3 1 9 nine"}
	holdRefused(t, lines, api.ErrState, amend...)
	holdRefused(t, lines, api.ErrState, "say 3 x", "bind 1 2 20", "bind 2 1 10")
	s := made(t, append(append(lines, "day 4"), amend...)...)
	if !slices.Equal(printOf(t, s), print) || !slices.Equal(s.Cites, []string{"vol. 1, col. 2, l. 1", "vol. 1, 3, par. 2", "2@3"}) {
		t.Fatalf("%+v", s)
	}
	holdShown(t, append(append(lines, "day 4"), amend...), 1, nil, "9 2")
}

// allTruths gives all votes of so many members.
func allTruths(members int) iter.Seq[[]uint8] {
	return func(yield func([]uint8) bool) {
		truth := make([]uint8, members)
		for {
			if !yield(slices.Clone(truth)) {
				return
			}
			i := 0
			for ; i < members; i++ {
				if truth[i]++; truth[i] <= tally.No {
					break
				}
				truth[i] = tally.None
			}
			if i == members {
				return
			}
		}
	}
}

// fits says whether the members may have voted so, by the lists.
func fits(d tally.Division, truth []uint8) bool {
	for m, vote := range truth {
		for lobby, lists := range map[uint8][2]tally.List{tally.Aye: d.Ayes, tally.No: d.Noes} {
			on := 0
			for _, l := range lists {
				if slices.Contains(l, m) {
					on++
				}
			}
			if on == 2 && vote != lobby || on == 0 && vote == lobby {
				return false
			}
		}
	}
	return true
}

// outcomeOf counts what members voted.
func outcomeOf(d tally.Division, truth []uint8) uint8 {
	ayes, noes := 0, 0
	for m, vote := range truth {
		if slices.ContainsFunc(d.Pairs, func(p tally.Pair) bool { return p.A == m || p.B == m }) {
			continue
		}
		switch vote {
		case tally.Aye:
			ayes++
		case tally.No:
			noes++
		}
	}
	carried := false
	switch d.Rule {
	case tally.Simple:
		carried = ayes > noes || ayes == noes && d.Tie == tally.Aye
	case tally.Absolute:
		carried = ayes >= d.Need || ayes == d.Need-1 && d.Tie == tally.Aye
	case tally.Thirds:
		carried = ayes > 0 && 3*ayes >= 2*(ayes+noes)
	}
	switch {
	case ayes+noes < d.Quorum:
		return tally.Void
	case carried:
		return tally.Carried
	}
	return tally.Lost
}

// P12.9, and P3: each result was the only outcome that the lists allowed: whatever the
// members truly voted, the count has it; and where there is no result, there was more
// than one, or none.
func TestP12_9Sure(t *testing.T) {
	d := dice(9)
	counts, doubtful := map[api.Errno]int{}, 0
	for range 700 {
		lines := d.about(d.roll(6, 40), append(slices.Repeat([]string{"both", "tell"}, 4), ofDivisions...))
		for range 4 {
			lines = slices.Insert(lines, d.roll(2, len(lines)), "result")
		}
		for n := range lines {
			if lines[n] != "result" {
				continue
			}
			before, _ := run(t, lines[:n])
			s, errors := run(t, lines[:n+1])
			if !before.Open {
				continue
			}
			outcomes, truths := map[uint8]bool{}, 0
			for truth := range allTruths(before.Division.Members) {
				if fits(before.Division, truth) {
					outcomes[outcomeOf(before.Division, truth)] = true
					truths++
				}
			}
			want := api.OK
			switch len(outcomes) {
			case 0:
				want = api.ErrFail
			case 2, 3:
				want = api.ErrGap
			}
			if errors[n] != want {
				t.Fatalf("%q: %v, though %v is allowed", lines[:n+1], errors[n], outcomes)
			}
			if want == api.OK {
				if last := len(s.Results) - 1; last != len(before.Results) || !outcomes[s.Results[last]] {
					t.Fatalf("%q: the results are %v, though %v is allowed", lines[:n+1], s.Results, outcomes)
				}
				if truths > 1 {
					doubtful++
				}
			}
			counts[want]++
		}
	}
	if counts[api.OK] < 200 || counts[api.ErrGap] < 50 || counts[api.ErrFail] < 30 || doubtful < 50 {
		t.Errorf("%v, %d of them with doubtful members", counts, doubtful)
	}
}

// P12.10: a reader is shown no anchor that a hide keeps from the reader in that year, and
// all others; what is shown is there.
func TestP12_10Kept(t *testing.T) {
	d := dice(10)
	kept := 0
	for lines := range sessions(10, 400) {
		s, _ := run(t, lines)
		for range 5 {
			year, may := d.roll(0, 9), d.may()
			l := look(t, lines, year, may)
			keeps := func(anchor string) bool {
				return slices.ContainsFunc(s.Hides, func(h desk.Hide) bool {
					return numeral(h.Anchor) == anchor && year < h.Until && !slices.Contains(may, h.Kind)
				})
			}
			if i := slices.IndexFunc(l, keeps); i >= 0 {
				t.Fatalf("%q: %q is shown in %d to who may read %v", lines, l[i], year, may)
			}
			for _, anchor := range saidIn(s) {
				if text := numeral(anchor); keeps(text) == slices.Contains(l, text) {
					t.Fatalf("%q: %q are shown in %d to who may read %v, and of %s?", lines, l, year, may, text)
				} else if keeps(text) {
					kept++
				}
			}
			for i, text := range l {
				if text == "*" && i > 0 && l[i-1] == "*" {
					t.Fatalf("%q: %q", lines, l)
				}
			}
		}
	}
	if kept < 1000 {
		t.Errorf("%d are kept", kept)
	}
}

// numeral returns the digits of a number from 0 to 999.
func numeral(n int) string {
	if n < 10 {
		return string(rune('0' + n))
	}
	return numeral(n/10) + numeral(n%10)
}

// retold returns the session with other texts of what is said, where lines are accepted.
func (d *dice) retold(lines []string) []string {
	_, errors := ran(lines)
	lines = slices.Clone(lines)
	for i, line := range lines {
		word, n, _, _ := readOf(line)
		if word == "say" && errors[i] == api.OK {
			lines[i] = "say " + numeral(n[0]) + " " + oneOf(d, "x", strings.Repeat("y", d.roll(1, 200)), d.words(1, 9), " ", "99", "*")
		}
	}
	return lines
}

// P12.10, and P6: two sessions that differ only in the texts of what is said look the same
// to each reader.
func TestP12_10LookTheSame(t *testing.T) {
	d := dice(100)
	differ := 0
	for lines := range sessions(100, 400) {
		other := d.retold(lines)
		_, errors := run(t, lines)
		if _, others := run(t, other); !slices.Equal(errors, others) {
			t.Fatalf("%q: %v; %q: %v", lines, errors, other, others)
		}
		if !slices.Equal(lines, other) {
			differ++
		}
		for range 8 {
			year, may := d.roll(0, 9), d.may()
			if a, b := look(t, lines, year, may), look(t, other, year, may); !slices.Equal(a, b) {
				t.Fatalf("in %d to who may read %v %q look like %q, and %q like %q", year, may, lines, a, other, b)
			}
		}
	}
	if differ < 200 {
		t.Errorf("%d differ", differ)
	}
}

// P12.10: in a later year, or to who may read more, no anchor is hidden that was not.
func TestP12_10Later(t *testing.T) {
	d := dice(1010)
	more := 0
	for lines := range sessions(1010, 200) {
		for range 6 {
			year, may := d.roll(0, 8), d.may()
			now, later := look(t, lines, year, may), look(t, lines, year+d.roll(0, 2), slices.Compact(slices.Sorted(slices.Values(append(may, d.roll(0, 7))))))
			for _, text := range now {
				if text != "*" && !slices.Contains(later, text) {
					t.Fatalf("%q: %q, and then %q", lines, now, later)
				}
			}
			if !slices.Equal(now, later) {
				more++
			}
		}
	}
	if more < 50 {
		t.Errorf("%d are shown more", more)
	}
}

// P12.11: what order puts into the volume has just the words of the motion, and of papers
// that were adopted.
func TestP12_11Resolved(t *testing.T) {
	d := dice(11)
	orders, amended := 0, 0
	for range 500 {
		lines := d.about(d.roll(8, 45), append(slices.Repeat([]string{"paper", "adopt"}, 3), append(ofMotions, "say", "day")...))
		for n, line := range lines {
			if !strings.HasPrefix(line, "order") {
				continue
			}
			before, _ := run(t, lines[:n])
			s, errors := run(t, lines[:n+1])
			if errors[n] != api.OK {
				continue
			}
			_, number, _, _ := readOf(line)
			part := s.Volume.Parts[len(s.Volume.Parts)-1]
			last := part.Paragraphs[len(part.Paragraphs)-1]
			if part.Day != s.Day || last.Anchor != number[0] || s.Moved || len(s.Motion.Words) != 0 || len(s.Motion.Papers) != 0 || len(s.Choice) != 0 {
				t.Fatalf("%q: %+v", lines[:n+1], s)
			}
			holdResolved(t, before.Motion, before.Choice, last.Text)
			orders++
			amended += len(before.Choice)
		}
	}
	if orders < 200 || amended < 200 {
		t.Errorf("%d orders, by %d papers", orders, amended)
	}
}

// holdResolved holds that a text is that of the motion by the choice: each of its words is
// the word of its origin, and each word of the motion and of papers that were adopted is
// there, but for those that such a paper replaces.
func holdResolved(t *testing.T, m paper.Motion, choice []int, text string) {
	t.Helper()
	words, origins, e := paper.Text(m, choice)
	if e != api.OK || strings.Join(words, " ") != text {
		t.Fatalf("%v by %v: %q, not %q, %v", m, choice, text, words, e)
	}
	lists := map[int][]string{0: m.Words}
	for _, p := range m.Papers {
		if slices.Contains(choice, p.Number) {
			lists[p.Number] = p.Words
		}
	}
	for i, o := range origins {
		if list, adopted := lists[o.Number]; !adopted || strings.Split(text, " ")[i] != list[o.Index] {
			t.Fatalf("%v by %v: the word %d of %q is of %v", m, choice, i, text, o)
		}
	}
	for number, list := range lists {
		for i := range list {
			replaced := slices.ContainsFunc(m.Papers, func(p paper.Paper) bool {
				return slices.Contains(choice, p.Number) && p.Of == number && p.From <= i && i < p.To
			})
			if replaced == slices.Contains(origins, paper.Origin{Number: number, Index: i}) {
				t.Fatalf("%v by %v: the word %d of %d in %q", m, choice, i, number, text)
			}
		}
	}
}

// P12.11: a paper that was not adopted, or was refused, leaves no word.
func TestP12_11NotAdopted(t *testing.T) {
	lines := split("move a b;paper 1 0 0 1 c;paper 2 0 0 1 d;paper 3 1 0 1 e;paper 4 0 2 2 f;adopt 1;adopt 2;adopt 4;paper 4 0 0 0 g;order 7")
	s, _ := run(t, lines)
	if text := s.Volume.Parts[0].Paragraphs[0].Text; text != "c b f" {
		t.Fatalf("it was resolved: %q", text)
	}
	if s := made(t, "move a b", "paper 1 0 0 1 c", "order 7"); s.Volume.Parts[0].Paragraphs[0].Text != "a b" {
		t.Fatalf("it was resolved: %+v", s.Volume)
	}
}

// P12.12: without a line that bars it a refused line is accepted, and without any other
// one it is not; an accepted line is barred by none; no refused line bars one.
func TestP12_12Bars(t *testing.T) {
	d := dice(12)
	barred, unbarred := 0, 0
	for i := range 250 {
		lines := d.session(d.roll(1, 18))
		if i%4 == 0 {
			lines = d.bound(d.roll(12, 24))
		}
		lines = d.repeated(lines)
		_, errors := run(t, lines)
		for line := range lines {
			l, e := desk.Bars(lines, line)
			if e != api.OK || !slices.IsSorted(l) || len(slices.Compact(slices.Clone(l))) != len(l) {
				t.Fatalf("Bars of %q, %d: %v, %v", lines, line, l, e)
			}
			if errors[line] == api.OK && len(l) > 0 {
				t.Fatalf("Bars of %q, %d, which is accepted: %v", lines, line, l)
			}
			for other := range lines[:line] {
				bars := slices.Contains(l, other)
				if bars && errors[other] != api.OK {
					t.Fatalf("Bars of %q, %d: %d, which is refused", lines, line, other)
				}
				if errors[line] == api.OK {
					continue
				}
				_, without := run(t, without(lines[:line+1], other))
				if bars != (without[line-1] == api.OK) {
					t.Fatalf("Bars of %q, %d: %v; without %d the error is %v", lines, line, l, other, without[line-1])
				}
				if bars {
					barred++
				} else {
					unbarred++
				}
			}
		}
	}
	if barred < 300 || unbarred < 3000 {
		t.Errorf("%d bar a line, %d do not", barred, unbarred)
	}
}

package desk

import (
	"math"
	"slices"
	"strings"

	"palantype/api"
	"palantype/paper"
	"palantype/tally"
	"palantype/volume"
)

// session is a session at work, with the state that the accepted lines have made. No list
// of it is written into: one that changes is a new list. So a copy of a session is kept
// as it is, whatever the other one does.
type session struct {
	State
}

// after returns the session after all lines, and the error of each of them, or OK.
func after(lines []string) (s session, errors []api.Errno) {
	for _, line := range lines {
		errors = append(errors, s.do(line))
	}
	return s, errors
}

// do does the line, and returns OK; or its error, and then nothing has changed.
func (s *session) do(line string) (e api.Errno) {
	next := *s
	defer func() {
		switch thrown := recover().(type) {
		case nil:
			*s = next
		case api.Errno:
			e = thrown
		default: // no line is refused so: it is a fault of the program
			panic(thrown)
		}
	}()
	w, x := readLine(line)
	w.do(&next, x)
	return api.OK
}

// refuse leaves a line with the error, if it is one.
func refuse(e api.Errno) {
	if e != api.OK {
		panic(e)
	}
}

// expect leaves a line with the error, if something is not as it has to be.
func expect(is bool, e api.Errno) {
	if !is {
		refuse(e)
	}
}

// with returns a list of its own, with one element more. Behind a list that is clipped
// append finds no room, so that it does not write there.
func with[T any](list []T, element T) []T { return append(slices.Clip(list), element) }

// rising returns a list of its own, with one number more, that rises.
func rising(list []int, n int) []int {
	list = with(list, n)
	slices.Sort(list)
	return list
}

// uint8Of returns the number as a uint8, if it is one.
func uint8Of(n int) uint8 {
	expect(within(n, 0, math.MaxUint8), api.ErrRange)
	return uint8(n)
}

// goOn goes on to a day.
func (s *session) goOn(x entry) {
	expect(within(x.n[0], s.Day, api.MaxCalendar), api.ErrRange)
	s.Day = x.n[0]
}

// say puts down what was said.
func (s *session) say(x entry) { s.put(x.n[0], x.text) }

// put puts a paragraph at the end of the part of the Day. As days do not fall, that is the
// last part, or a new one.
func (s *session) put(anchor int, text string) {
	expect(!s.Bound, api.ErrState)
	parts, today := s.Volume.Parts, volume.Part{Day: s.Day}
	if last := len(parts) - 1; last >= 0 && parts[last].Day == s.Day {
		parts, today = parts[:last], parts[last]
	}
	today.Paragraphs = with(today.Paragraphs, volume.Paragraph{Anchor: anchor, Text: text})
	s.Volume.Parts = with(parts, today)
	refuse(volume.CheckVolume(s.looked()))
}

// looked returns the Volume as it is looked at: before it is bound, as a draft.
func (s session) looked() volume.Volume {
	if s.Bound {
		return s.Volume
	}
	return volume.Volume{Number: 1, Bound: s.Day, Height: 1, Width: 10, Parts: s.Volume.Parts}
}

// bind binds the volume.
func (s *session) bind(x entry) {
	expect(!s.Bound, api.ErrState)
	s.Volume.Number, s.Volume.Height, s.Volume.Width = x.n[0], x.n[1], x.n[2]
	s.Volume.Bound, s.Bound = s.Day, true
	refuse(volume.CheckVolume(s.Volume))
}

// change has a paragraph say something else from now on.
func (s *session) change(x entry) {
	s.issue(volume.Erratum{Number: x.n[0], Kind: volume.Change, Anchor: x.n[1], Text: x.text})
}

// remove removes a paragraph.
func (s *session) remove(x entry) {
	s.issue(volume.Erratum{Number: x.n[0], Kind: volume.Remove, Anchor: x.n[1]})
}

// add adds a paragraph behind another one.
func (s *session) add(x entry) {
	s.issue(volume.Erratum{Number: x.n[0], Kind: volume.Add, Anchor: x.n[1], New: x.n[2], Text: x.text})
}

// issue issues the erratum on the Day. On the day on which the volume was bound it would
// change the print.
func (s *session) issue(x volume.Erratum) {
	expect(s.Bound && s.Day != s.Volume.Bound, api.ErrState)
	x.Day = s.Day
	s.Errata = with(s.Errata, x)
	_, e := volume.Read(s.Volume, s.Errata, s.Day)
	refuse(e)
}

// cite cites a paragraph.
func (s *session) cite(x entry) {
	expect(s.Bound, api.ErrState)
	text, e := volume.Cite(s.Volume, s.Errata, x.n[0], uint8Of(x.n[1]), s.Day)
	refuse(e)
	s.Cites = with(s.Cites, text)
}

// hide keeps a paragraph from readers.
func (s *session) hide(x entry) {
	h := Hide{Anchor: x.n[0], Kind: x.n[1], Until: x.n[2]}
	expect(within(h.Kind, 0, api.MaxOrderKind) && within(h.Until, 0, api.MaxYear), api.ErrArg)
	expect(len(s.Hides) < api.MaxOrders, api.ErrLimit)
	_, _, e := volume.Find(s.looked(), s.Errata, h.Anchor, s.Day)
	refuse(e)
	s.Hides = with(s.Hides, h)
}

// seat says how many members the House has.
func (s *session) seat(x entry) {
	expect(!s.Open, api.ErrState)
	expect(within(x.n[0], 1, api.MaxMembers), api.ErrRange)
	s.House = x.n[0]
}

// divide opens a division.
func (s *session) divide(x entry) {
	expect(!s.Open, api.ErrState)
	s.Division = tally.Division{Members: s.House, Rule: uint8Of(x.n[0]), Need: x.n[1], Quorum: x.n[2], Tie: uint8Of(x.n[3])}
	refuse(tally.CheckDivision(s.Division))
	s.Open = true
}

// tell puts a member on the list of a teller.
func (s *session) tell(x entry) {
	expect(s.Open, api.ErrState)
	lobby, teller, member := x.n[0], x.n[1], x.n[2]
	expect(within(lobby, int(tally.Aye), int(tally.No)) && within(teller, 0, 1) && within(member, 0, s.Division.Members-1), api.ErrRange)
	lists := &s.Division.Ayes
	if lobby == int(tally.No) {
		lists = &s.Division.Noes
	}
	expect(!slices.Contains(lists[teller], member), api.ErrTwice)
	lists[teller] = rising(lists[teller], member)
}

// pair makes two members a pair.
func (s *session) pair(x entry) {
	expect(s.Open, api.ErrState)
	s.Division.Pairs = with(s.Division.Pairs, tally.Pair{A: x.n[0], B: x.n[1]})
	refuse(tally.CheckDivision(s.Division))
}

// result closes the division. The lists of one in which nobody clashes allow some outcome.
func (s *session) result(entry) {
	expect(s.Open, api.ErrState)
	outcomes, e := tally.Allowed(s.Division)
	refuse(e)
	expect(len(outcomes) == 1, api.ErrGap)
	s.Results = with(s.Results, outcomes[0])
	s.Division, s.Open = tally.Division{}, false
}

// move moves a motion.
func (s *session) move(x entry) {
	expect(!s.Moved, api.ErrState)
	s.Motion, s.Moved = paper.Motion{Words: wordsOf(x.text)}, true
	refuse(paper.CheckMotion(s.Motion))
}

// paper takes in a paper that amends the motion, or another paper.
func (s *session) paper(x entry) {
	expect(s.Moved, api.ErrState)
	p := paper.Paper{Number: x.n[0], Of: x.n[1], From: x.n[2], To: x.n[3], Words: wordsOf(x.text)}
	s.Motion.Papers = with(s.Motion.Papers, p)
	refuse(paper.CheckMotion(s.Motion))
}

// adopt puts a paper into the Choice.
func (s *session) adopt(x entry) {
	expect(s.Moved, api.ErrState)
	expect(!slices.Contains(s.Choice, x.n[0]), api.ErrTwice)
	s.Choice = rising(s.Choice, x.n[0])
	_, _, e := paper.Text(s.Motion, s.Choice)
	refuse(e)
}

// order puts down what was resolved: the motion, by the papers that were adopted.
func (s *session) order(x entry) {
	expect(s.Moved, api.ErrState)
	resolved, _, e := paper.Text(s.Motion, s.Choice)
	refuse(e)
	s.put(x.n[0], strings.Join(resolved, blank))
	s.Motion, s.Moved, s.Choice = paper.Motion{}, false, nil
}

package desk_test

import (
	"fmt"
	"math"
	"reflect"
	"slices"
	"strings"
	"testing"

	"palantype/api"
	"palantype/desk"
	"palantype/paper"
	"palantype/tally"
	"palantype/volume"
)

// This file tests what DOC.md promises of each layer, for this one.

// input is what the calls are given.
type input struct {
	Lines  []string
	Line   int
	Year   int
	May    []int
	Sheets []byte
	More   []string
}

// output is what all calls return for it; Codes has their errors, by order.
type output struct {
	State     desk.State
	Errors    []api.Errno
	Bars      []int
	Shown     []string
	Report    string
	Write     []byte
	Recovered []string
	Bytes     int
	Resume    []byte
	Codes     [6]api.Errno
}

func callAll(x input) (y output) {
	y.State, y.Errors, y.Codes[0] = desk.Run(x.Lines)
	y.Bars, y.Codes[1] = desk.Bars(x.Lines, x.Line)
	y.Shown, y.Codes[2] = desk.Shown(x.Lines, x.Year, x.May)
	y.Report, y.Codes[3] = desk.Report(x.Lines)
	y.Write, y.Codes[4] = desk.Write(x.Lines)
	y.Recovered, y.Bytes = desk.Recover(x.Sheets)
	y.Resume, y.Codes[5] = desk.Resume(x.Sheets, x.More)
	return y
}

// wanted is what they have to return.
func wanted(x input) (y output) {
	lines, read := recoveredOf(string(x.Sheets))
	y.Recovered, y.Bytes = lines, read
	resumed, e := resumedOf(string(x.Sheets), x.More)
	y.Resume, y.Codes[5] = []byte(resumed), e
	if badLines(x.Lines) {
		for i := range 5 {
			y.Codes[i] = api.ErrLimit
		}
		return settled(y)
	}
	y.State, y.Errors = ran(x.Lines)
	y.Report, y.Write = reportOf(y.State), []byte(sheetsOf(x.Lines...))
	if x.Line < 0 || x.Line >= len(x.Lines) {
		y.Codes[1] = api.ErrRange
	} else {
		y.Bars = barsOf(x.Lines, x.Line)
	}
	if badReader(x.Year, x.May) {
		y.Codes[2] = api.ErrRange
	} else {
		y.Shown = shownIn(y.State, x.Year, x.May)
	}
	return settled(y)
}

// copied returns a copy that shares no memory; lists of no elements are nil, or as empty
// says.
func copied(x input, empty bool) input {
	x.Lines, x.May, x.Sheets, x.More = list(x.Lines, empty), list(x.May, empty), list(x.Sheets, empty), list(x.More, empty)
	return x
}

// settled returns a copy of the output; lists of no elements are nil.
func settled(y output) output {
	y.State = cloned(y.State)
	y.Errors, y.Bars, y.Shown = list(y.Errors, false), list(y.Bars, false), list(y.Shown, false)
	y.Write, y.Recovered, y.Resume = list(y.Write, false), list(y.Recovered, false), list(y.Resume, false)
	return y
}

// fill writes the element into all memory of the list, also behind its end.
func fill[T any](l []T, element T) {
	l = l[:cap(l)]
	for i := range l {
		l[i] = element
	}
}

// scribble writes into all memory of the output.
func scribble(y output) {
	s := y.State
	for _, p := range s.Volume.Parts {
		fill(p.Paragraphs, volume.Paragraph{Anchor: 77, Text: "scribbled"})
	}
	for _, p := range s.Motion.Papers {
		fill(p.Words, "scribbled")
	}
	fill(s.Volume.Parts, part(77))
	fill(s.Errata, volume.Erratum{Number: 77})
	fill(s.Hides, desk.Hide{Anchor: 77})
	fill(s.Cites, "scribbled")
	fill(s.Motion.Words, "scribbled")
	fill(s.Motion.Papers, paper.Paper{Number: 77})
	fill(s.Choice, 77)
	for _, l := range [][]int{s.Division.Ayes[0], s.Division.Ayes[1], s.Division.Noes[0], s.Division.Noes[1]} {
		fill(l, 77)
	}
	fill(s.Division.Pairs, tally.Pair{A: 77, B: 77})
	fill(s.Results, 77)
	fill(y.Errors, 77)
	fill(y.Bars, 77)
	fill(y.Shown, "scribbled")
	fill(y.Write, 77)
	fill(y.Recovered, "scribbled")
	fill(y.Resume, 77)
}

// strange throws a number that a caller may give by mistake, or any small one.
func (d *dice) strange() int {
	if d.one(2) {
		return d.roll(-2, 60)
	}
	return oneOf(d, math.MinInt, math.MinInt+1, -1<<32, -1, 0, 7, 8, api.MaxYear, api.MaxYear+1, api.MaxSheet, api.MaxSheet+1, 256, 1<<32, math.MaxInt-1, math.MaxInt)
}

// valid throws an input that is valid.
func (d *dice) valid() input {
	x := input{Lines: d.session(d.roll(1, 20)), Year: d.roll(0, 9), May: d.may()}
	if d.one(3) {
		x.Lines = d.bound(d.roll(5, 30))
	}
	x.Line = d.roll(0, len(x.Lines)-1)
	x.Sheets = []byte(sheetsOf(x.Lines[:d.roll(0, len(x.Lines))]...))
	x.More = x.Lines[d.roll(0, len(x.Lines)):]
	return copied(x, false)
}

// input throws an input that is valid, or has something strange, or is large.
func (d *dice) input() input {
	x := d.valid()
	switch d.roll(0, 11) {
	case 0:
		x.Year = d.strange()
	case 1:
		x.May = append(x.May, d.strange())
	case 2:
		x.Line = d.strange()
	case 3:
		x.Line, x.Year, x.May = d.strange(), d.strange(), []int{d.strange(), d.strange()}
	case 4:
		for i := range x.Lines {
			x.Lines[i] = d.strangeLine(x.Lines[i])
		}
	case 5:
		x.Lines[d.roll(0, len(x.Lines)-1)] = strings.Repeat("say 1 x", d.roll(1, 70))
	case 6:
		x.Lines = slices.Repeat(x.Lines, d.roll(1, 6))
		x.More = slices.Repeat(x.More, d.roll(1, 6))
	case 7:
		x.Sheets = []byte(d.strangeLine(string(x.Sheets)))
	case 8:
		x.Sheets = slices.Repeat(x.Sheets, d.roll(0, 6))
	case 9:
		for i := range x.Sheets {
			if d.one(20) {
				x.Sheets[i] = byte(d.roll(0, 255))
			}
		}
		x.More = append(x.More, string(x.Sheets))
	}
	return copied(x, false)
}

// P1, with R1 and R2: each call returns; it returns what the chapter says, or the first
// error, and beside it nothing else.
func TestP1AllReturn(t *testing.T) {
	d := dice(1000)
	seen := map[api.Errno]int{}
	for range 1500 {
		x := d.input()
		y, want := settled(callAll(x)), wanted(x)
		if !reflect.DeepEqual(y, want) {
			t.Fatalf("%+v: %+v, not %+v", x, y, want)
		}
		for _, e := range y.Codes {
			seen[e]++
		}
		zero := [...]bool{reflect.DeepEqual(y.State, desk.State{}) && y.Errors == nil, y.Bars == nil, y.Shown == nil, y.Report == "", y.Write == nil, y.Resume == nil}
		for i, z := range zero {
			if y.Codes[i] != api.OK && !z {
				t.Fatalf("%+v: the call %d returns %v, and more: %+v", x, i, y.Codes[i], y)
			}
		}
	}
	if seen[api.OK] < 4000 || seen[api.ErrRange] < 200 || seen[api.ErrLimit] < 300 {
		t.Errorf("%v were returned", seen)
	}
}

// P1: the largest sessions, and what takes longest to count.
func TestP1Large(t *testing.T) {
	lines := split("house 40;divide 0 0 0 1")
	for i := range 8 {
		lines = append(lines, fmt.Sprint("tell 1 0 ", i), fmt.Sprint("tell 2 0 ", i))
	}
	lines = append(lines, slices.Repeat([]string{"result"}, 60-len(lines))...)
	holdRun(t, lines)
	holdBars(t, lines, 59)
	for _, sheets := range []string{strings.Repeat("[", 1<<20), strings.Repeat(sheetsOf(strings.Repeat("x", 400)), 1000), strings.Repeat("\x00", 1<<20)} {
		holdRecovered(t, sheets)
	}
	for _, line := range []string{strings.Repeat("x", 1<<20), strings.Repeat("9", 1<<20), "day " + strings.Repeat(" ", 1<<20)} {
		if _, _, e := desk.Run([]string{line}); e != api.ErrLimit {
			t.Fatalf("Run of a line of %d bytes: %v", len(line), e)
		}
	}
}

// resolved returns the text that is put into the volume by the last line, which is order.
func resolved(t *testing.T, lines []string) string {
	t.Helper()
	parts := made(t, lines...).Volume.Parts
	paragraphs := parts[len(parts)-1].Paragraphs
	return paragraphs[len(paragraphs)-1].Text
}

// P5: papers lead to the same, in whatever order they come.
func TestP5Papers(t *testing.T) {
	d := dice(5005)
	orders, several := 0, 0
	for range 400 {
		lines := acceptedOf(d.about(d.roll(5, 25), []string{"paper", "paper", "adopt"}, "move a b c d e"))
		papers := slices.Clone(lines[1:])
		want := resolved(t, append(slices.Clone(lines), "order 5"))
		for range 5 {
			mix(&d, papers)
			other := slices.Concat(lines[:1], papers, []string{"order 5"})
			if len(accepted(t, other)) < len(other) {
				continue // a paper is ahead of what it amends, or is adopted ahead of that
			}
			if text := resolved(t, other); text != want {
				t.Fatalf("%q resolve %q, not %q", other, text, want)
			}
			orders++
			if len(papers) > 2 {
				several++
			}
		}
	}
	if orders < 200 || several < 50 {
		t.Errorf("%d orders, %d of them of several lines", orders, several)
	}
}

// P5: all orders of the same papers and adoptions that are accepted end in the same.
func TestP5AllOrders(t *testing.T) {
	start := split("move a b c")
	lines := split("paper 3 0 0 1 d;paper 2 0 1 2 e;paper 7 0 2 2 f;adopt 2;adopt 3;adopt 7")
	same := map[string]int{}
	var deal func(left, dealt []string)
	deal = func(left, dealt []string) {
		if len(left) == 0 {
			if alone := accepted(t, append(start, dealt...)); len(alone) == 7 {
				same[resolved(t, append(append(start, dealt...), "order 1"))]++
			}
		}
		for i, line := range left {
			deal(without(left, i), append(slices.Clone(dealt), line))
		}
	}
	deal(lines, nil)
	if !reflect.DeepEqual(same, map[string]int{"d e f c": 90}) { // one in eight of 720
		t.Fatalf("%v", same)
	}
}

// P5: errata of a day lead to the same, in whatever order they are issued.
func TestP5Errata(t *testing.T) {
	d := dice(5050)
	issued := 0
	for range 200 {
		lines := acceptedOf(d.bound(d.roll(12, 25)))
		lines = append(lines, "day 500")
		s, _ := ran(lines)
		errata := []string{}
		for range d.roll(2, 8) {
			line := d.any(s, []string{"change", "remove", "add"})[0]
			if _, e := did(s, line); e == api.OK {
				s, _ = did(s, line)
				errata = append(errata, line)
			}
		}
		first := made(t, append(slices.Clone(lines), errata...)...)
		want, e := volume.Read(first.Volume, first.Errata, 500)
		if e != api.OK {
			t.Fatalf("%q: %v", lines, e)
		}
		mix(&d, errata)
		other, errors := run(t, append(slices.Clone(lines), errata...))
		if slices.ContainsFunc(errors, func(e api.Errno) bool { return e != api.OK }) {
			continue // one is ahead of what adds its paragraph
		}
		if l, e := volume.Read(other.Volume, other.Errata, 500); !slices.Equal(l, want) || e != api.OK {
			t.Fatalf("%q, %q: %v, not %v", lines, errata, l, want)
		}
		holdReport(t, append(slices.Clone(lines), errata...), reportOf(first))
		issued += len(errata)
	}
	if issued < 300 {
		t.Errorf("%d errata", issued)
	}
}

// P6: a reader cannot tell two sessions apart that differ only in what is hidden from the
// reader: in which anchors are hidden, and how many there are in a gap.
func TestP6NothingShows(t *testing.T) {
	d := dice(1006)
	for range 300 {
		var one, other []string
		var want []string
		for i := range d.roll(1, 6) {
			if d.one(2) {
				line := fmt.Sprintf("say %d x", i+1)
				one, other, want = append(one, line), append(other, line), append(want, fmt.Sprint(i+1))
				continue
			}
			kind, until := d.roll(0, 7), d.roll(51, 9999)
			hide := func(to *[]string, from int) {
				for k := range d.roll(1, 3) {
					*to = append(*to, fmt.Sprintf("say %d %s", from+10*i+k, d.words(1, 9)), fmt.Sprintf("hide %d %d %d", from+10*i+k, kind, until))
				}
			}
			hide(&one, 100)
			hide(&other, 200)
			if len(want) == 0 || want[len(want)-1] != "*" {
				want = append(want, "*")
			}
		}
		one, other = acceptedOf(one), acceptedOf(other)
		if s, _ := ran(one); len(s.Hides) == 12 {
			continue
		}
		if s, _ := ran(other); len(s.Hides) == 12 {
			continue
		}
		for _, lines := range [][]string{one, other, append(one, "bind 1 1 10"), append(other, "bind 9 9 19", "day 5")} {
			holdShown(t, lines, d.roll(0, 50), nil, strings.Join(want, " "))
		}
	}
}

// P7: what was printed, and what a citation leads to, does not change any more: from line
// to line what was cited says the same words after its day.
func TestP7ForEver(t *testing.T) {
	d := dice(1007)
	followed := 0
	for range 120 {
		lines := d.bound(d.roll(25, 55))
		said := map[string]string{} // by citation
		for n := range lines {
			s, _ := run(t, lines[:n+1])
			for _, cite := range s.Cites {
				anchor, day, e := volume.Resolve(s.Volume, s.Errata, cite)
				if e != api.OK {
					t.Fatalf("%q: %q leads to %v", lines[:n+1], cite, e)
				}
				text, removed, e := volume.Find(s.Volume, s.Errata, anchor, day)
				leads := fmt.Sprint(anchor, day, text, removed, e)
				// On the day of a citation by its anchor there may be errata yet.
				if before, has := said[cite]; has && before != leads && s.Day != day {
					t.Fatalf("%q: %q leads to %s, not %s", lines[:n+1], cite, leads, before)
				}
				said[cite] = leads
				followed++
			}
		}
	}
	if followed < 5000 {
		t.Errorf("%d are followed", followed)
	}
}

// P8: from its sheets a session comes to the same end.
func TestP8Again(t *testing.T) {
	for lines := range sessions(1008, 400) {
		s, errors := run(t, lines)
		again, read := desk.Recover([]byte(write(t, lines)))
		if !slices.Equal(again, lines) || read != len(sheetsOf(lines...)) {
			t.Fatalf("%q come back as %q, %d", lines, again, read)
		}
		if x, others := run(t, again); !same(x, s) || !slices.Equal(others, errors) {
			t.Fatalf("%q end in %+v, and then in %+v", lines, s, x)
		}
		b, e := desk.Resume(nil, lines)
		alone, _ := desk.Recover(b)
		if e != api.OK {
			t.Fatalf("Resume of nothing, %q: %v", lines, e)
		}
		holdState(t, alone, s)
	}
}

// R1: what is asked ahead of what: of the lines, and then the call's own question.
func TestR1Errors(t *testing.T) {
	for _, lines := range tooLarge() {
		holdNoBars(t, lines, -1, api.ErrLimit)
		holdNotShown(t, lines, -1, []int{8}, api.ErrLimit)
		holdNoResume(t, "x", lines)
	}
	holdNoBars(t, nil, 0, api.ErrRange)
	holdNotShown(t, nil, -1, nil, api.ErrRange)
}

// R2: lines that are refused are no error of a call: what is beside them is there.
func TestR2RefusedLines(t *testing.T) {
	lines := []string{"x", "day 7", "day 6", "result", "house 0", "say 1 x", "say 1 x"}
	s, errors := run(t, lines)
	if s.Day != 7 || !slices.Equal(errors, []api.Errno{api.ErrForm, 0, api.ErrRange, api.ErrState, api.ErrRange, 0, api.ErrTwice}) {
		t.Fatalf("%+v, %v", s, errors)
	}
	holdReport(t, lines, "day 7 house 0\ndraft 1\n")
}

// R3 and R4: lists without elements are all the same, no call writes into an argument,
// what is returned is new memory, and nothing is remembered.
func TestR3R4Memory(t *testing.T) {
	d := dice(1001)
	var last input
	for range 700 {
		x := d.input()
		kept := copied(x, false)
		first := callAll(x)
		want := settled(first)
		if !reflect.DeepEqual(copied(x, false), kept) {
			t.Fatalf("%+v has become %+v", kept, x)
		}
		callAll(last)
		if y := settled(callAll(copied(x, true))); !reflect.DeepEqual(y, want) {
			t.Fatalf("%+v: %+v, and then %+v", x, want, y)
		}
		scribble(first)
		if !reflect.DeepEqual(copied(x, false), kept) {
			t.Fatalf("what is returned for %+v has memory of it", kept)
		}
		if y := settled(callAll(x)); !reflect.DeepEqual(y, want) {
			t.Fatalf("%+v: %+v, and then %+v", x, want, y)
		}
		last = x
	}
}

// R4: no two lists of a state are in the same memory: what is written into one of them, or
// put behind its end, is not in another one.
func TestR4ListsApart(t *testing.T) {
	lines := append(sitting()[:11], "say 12 x", "say 13 y", "day 2", "say 14 z", "say 15 z", "paper 4 0 0 0 a b", "pair 2 3", "bind 1 1 10", "day 3", "change 1 11 x", "remove 2 12", "cite 11 0", "cite 11 1", "hide 11 1 1", "adopt 4")
	before := cloned(made(t, lines...))
	for _, write := range []func(s desk.State){
		func(s desk.State) { fill(s.Volume.Parts[0].Paragraphs, volume.Paragraph{}) },
		func(s desk.State) { fill(s.Volume.Parts[1].Paragraphs, volume.Paragraph{}) },
		func(s desk.State) { fill(s.Motion.Words, "x") },
		func(s desk.State) { fill(s.Motion.Papers[0].Words, "x") },
		func(s desk.State) { fill(s.Motion.Papers[1].Words, "x") },
		func(s desk.State) { fill(s.Division.Ayes[0], 9) },
		func(s desk.State) { fill(s.Division.Ayes[1], 9) },
		func(s desk.State) { fill(s.Division.Noes[0], 9) },
		func(s desk.State) { fill(s.Choice, 9) },
		func(s desk.State) { fill(s.Cites, "x") },
	} {
		s := made(t, lines...)
		write(s)
		if n := changes(before, s); n != 1 {
			t.Fatalf("%d lists have changed: %+v, not %+v", n, s, before)
		}
	}
}

// changes counts in how many of their lists two states differ.
func changes(a, b desk.State) int {
	lists := func(s desk.State) []any {
		l := []any{s.Errata, s.Hides, s.Cites, s.Motion.Words, s.Choice, s.Division.Ayes[0], s.Division.Ayes[1], s.Division.Noes[0], s.Division.Noes[1], s.Division.Pairs, s.Results}
		for _, p := range s.Volume.Parts {
			l = append(l, p.Paragraphs)
		}
		for _, p := range s.Motion.Papers {
			l = append(l, p.Words)
		}
		return l
	}
	n := 0
	others := lists(cloned(b))
	for i, x := range lists(cloned(a)) {
		if !reflect.DeepEqual(x, others[i]) {
			n++
		}
	}
	return n
}

// R4: no call writes behind the end of an argument.
func TestR4BehindTheEnd(t *testing.T) {
	d := dice(1003)
	for range 300 {
		x := d.valid()
		lines, more, may, sheets := append(x.Lines, "behind"), append(x.More, "behind"), append(x.May, 77), append(x.Sheets, 77)
		lines, more = slices.Clone(lines), slices.Clone(more)
		x.Lines, x.More, x.May, x.Sheets = lines[:len(lines)-1], more[:len(more)-1], may[:len(may)-1], sheets[:len(sheets)-1]
		callAll(x)
		if lines[len(lines)-1] != "behind" || more[len(more)-1] != "behind" || may[len(may)-1] != 77 || sheets[len(sheets)-1] != 77 {
			t.Fatalf("%+v: the calls wrote behind an end", x)
		}
	}
}

// R10: numbers have one way to be written.
func TestR10Numbers(t *testing.T) {
	for digits, want := range map[string]api.Errno{
		"0": api.OK, "1": api.OK, "10": api.OK, "99999": api.OK, "100000": api.ErrRange, "999999999": api.ErrRange, "-1": api.ErrRange, "-10": api.ErrRange, "-999999999": api.ErrRange,
		"-0": api.ErrForm, "00": api.ErrForm, "01": api.ErrForm, "-01": api.ErrForm, "+1": api.ErrForm, "1000000000": api.ErrForm, "-1000000000": api.ErrForm, "": api.ErrForm, "-": api.ErrForm, "1.": api.ErrForm, "1e1": api.ErrForm, "0x1": api.ErrForm, "1_0": api.ErrForm, "١": api.ErrForm, "18446744073709551617": api.ErrForm, "-18446744073709551615": api.ErrForm,
	} {
		if _, errors := run(t, []string{"day " + digits}); errors[0] != want {
			t.Fatalf("the day %q: %v, not %v", digits, errors[0], want)
		}
	}
}

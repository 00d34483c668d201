package desk_test

import (
	"fmt"
	"reflect"
	"slices"
	"strings"
	"testing"

	"palantype/api"
	"palantype/desk"
	"palantype/paper"
	"palantype/tally"
	"palantype/volume"
)

// split returns the lines between semicolons; of nothing there are none.
func split(text string) []string {
	if text == "" {
		return nil
	}
	return strings.Split(text, ";")
}

// sitting is the session of the chapter's examples.
func sitting() []string {
	return split("house 5;say 11 The House met.;move this House notes the report;paper 3 0 2 3 welcomes;adopt 3;divide 0 0 3 2;tell 1 0 0;tell 1 1 0;tell 1 0 1;tell 1 1 1;tell 2 0 4;result;tell 2 1 4;result;order 12;bind 3 4 20;hide 11 2 1990;cite 12 0")
}

// run returns the state, and the errors.
func run(t *testing.T, lines []string) (desk.State, []api.Errno) {
	t.Helper()
	s, errors, e := desk.Run(lines)
	if e != api.OK || len(errors) != len(lines) {
		t.Fatalf("Run of %q: %v, %v, %v", lines, s, errors, e)
	}
	return s, errors
}

// made returns the state that lines make which are all accepted.
func made(t *testing.T, lines ...string) desk.State {
	t.Helper()
	s, errors := run(t, lines)
	for i, e := range errors {
		if e != api.OK {
			t.Fatalf("Run of %q: the line %d is refused: %v", lines, i, e)
		}
	}
	return s
}

// same says whether two states are the same.
func same(a, b desk.State) bool { return reflect.DeepEqual(cloned(a), cloned(b)) }

// holdState holds that the lines, which are all accepted, make the state.
func holdState(t *testing.T, lines []string, want desk.State) {
	t.Helper()
	if s := made(t, lines...); !same(s, want) {
		t.Fatalf("Run of %q: %+v, not %+v", lines, s, want)
	}
}

// holdRefused holds that, behind lines that are all accepted, each of these lines is
// refused with the error, and changes nothing.
func holdRefused(t *testing.T, lines []string, want api.Errno, refused ...string) {
	t.Helper()
	before := made(t, lines...)
	for _, line := range refused {
		s, errors := run(t, append(slices.Clone(lines), line))
		if got := errors[len(lines)]; got != want {
			t.Fatalf("Run of %q, and %q: %v, not %v", lines, line, got, want)
		}
		if !same(s, before) {
			t.Fatalf("Run of %q: %+v, and with %q, which is refused: %+v", lines, before, line, s)
		}
	}
}

// holdAccepted holds that, behind lines that are all accepted, each of these lines is
// accepted too.
func holdAccepted(t *testing.T, lines []string, accepted ...string) {
	t.Helper()
	for _, line := range accepted {
		made(t, append(slices.Clone(lines), line)...)
	}
}

// holdRun holds Run against what the chapter defines, and returns the errors.
func holdRun(t *testing.T, lines []string) []api.Errno {
	t.Helper()
	s, errors := run(t, lines)
	want, wanted := ran(lines)
	if !slices.Equal(errors, wanted) {
		t.Fatalf("Run of %q: %v, not %v", lines, errors, wanted)
	}
	if !same(s, want) {
		t.Fatalf("Run of %q: %+v, not %+v", lines, s, want)
	}
	return errors
}

// part has the paragraphs of a day: their anchors and texts, one behind the other.
func part(day int, paragraphs ...any) volume.Part {
	p := volume.Part{Day: day}
	for i := 0; i < len(paragraphs); i += 2 {
		p.Paragraphs = append(p.Paragraphs, volume.Paragraph{Anchor: paragraphs[i].(int), Text: paragraphs[i+1].(string)})
	}
	return p
}

// draft is a volume that is not bound.
func draft(parts ...volume.Part) volume.Volume { return volume.Volume{Parts: parts} }

// met is the part of the chapter's examples.
func met() volume.Part { return part(0, 11, "The House met.") }

// each returns one line for each number, with that in the place of the mark %d.
func each(format string, from, to int) []string {
	var l []string
	for i := from; i <= to; i++ {
		l = append(l, strings.ReplaceAll(format, "%d", fmt.Sprint(i)))
	}
	return l
}

// P12.1: the example of the chapter.
func TestP12_1RunExample(t *testing.T) {
	s, errors := run(t, sitting())
	want := make([]api.Errno, 18)
	want[11] = api.ErrGap
	if !slices.Equal(errors, want) {
		t.Fatalf("the errors are %v", errors)
	}
	state := desk.State{
		House:   5,
		Volume:  volume.Volume{Number: 3, Bound: 0, Height: 4, Width: 20, Parts: []volume.Part{part(0, 11, "The House met.", 12, "this House welcomes the report")}},
		Bound:   true,
		Hides:   []desk.Hide{{Anchor: 11, Kind: 2, Until: 1990}},
		Cites:   []string{"vol. 3, col. 1, l. 2"},
		Results: []uint8{tally.Carried},
	}
	if !same(s, state) {
		t.Fatalf("the state is %+v", s)
	}
	half := desk.State{
		House:    5,
		Volume:   draft(met()),
		Motion:   paper.Motion{Words: []string{"this", "House", "notes", "the", "report"}, Papers: []paper.Paper{{Number: 3, Of: 0, From: 2, To: 3, Words: []string{"welcomes"}}}},
		Moved:    true,
		Choice:   []int{3},
		Division: tally.Division{Members: 5, Ayes: [2]tally.List{{0, 1}, {0, 1}}, Noes: [2]tally.List{{4}, nil}, Rule: tally.Simple, Quorum: 3, Tie: tally.No},
		Open:     true,
	}
	holdState(t, sitting()[:11], half)
}

// P12.1: of no lines all is zero, and there are no errors.
func TestP12_1RunNothing(t *testing.T) {
	for _, lines := range [][]string{nil, {}} {
		if s, errors, e := desk.Run(lines); !same(s, desk.State{}) || len(errors) != 0 || e != api.OK {
			t.Fatalf("Run of nothing: %+v, %v, %v", s, errors, e)
		}
	}
	s, errors := run(t, []string{"", "x", "result"})
	if !same(s, desk.State{}) || !slices.Equal(errors, []api.Errno{api.ErrForm, api.ErrForm, api.ErrState}) {
		t.Fatalf("Run of what is refused: %+v, %v", s, errors)
	}
}

// all is a line of each word, as it may be accepted.
func all() []string {
	return []string{"day 0", "say 1 x", "bind 1 1 10", "change 1 1 x", "remove 1 1", "add 1 1 2 x", "cite 1 0", "hide 1 0 1", "house 3", "divide 0 0 0 1", "tell 1 0 0", "pair 0 1", "result", "move x", "paper 1 0 0 0 x", "adopt 1", "order 1"}
}

// places are sessions behind which a line is done in each kind of state.
func places() [][]string {
	return [][]string{nil, sitting()[:11], slices.Delete(sitting(), 11, 12), split("say 1 x;bind 1 1 10;day 1;move x;paper 1 0 0 0 x")}
}

// P12.1: lines that have not the form are refused ahead of all else.
func TestP12_1Form(t *testing.T) {
	bad := []string{
		"", " ", "  ", "x", "\n", "\x00", "é", "\xff", "Day 0", "DAY 0", " day 0", "\tday 0", "days 0", "da 0", "say11 x", "day0", "day\t0", "day,0", "result1", "resul", "results", "move", "mover x", "moved", "house\n5", "open", "draft 1", "volume 1", "say", "fault",
		strings.Repeat("x", 400), strings.Repeat(" ", 400), "day " + strings.Repeat("1", 396), "day " + strings.Repeat("0", 396), "day " + strings.Repeat(" ", 396),
	}
	for _, line := range all() {
		parts := strings.SplitN(line, " ", -1)
		word, rest := parts[0], parts[1:]
		// Each part left out, but the text of a motion, which may have no words: the blank is
		// there then.
		for i := range parts {
			bad = append(bad, strings.Join(slices.Delete(slices.Clone(parts), i, i+1), " "))
		}
		for i, part := range rest {
			if part == "x" {
				continue
			}
			with := func(part string) {
				other := slices.Clone(parts)
				other[i+1] = part
				bad = append(bad, strings.Join(other, " "))
			}
			for _, digits := range []string{"", " ", " " + part, "+" + part, "0" + part, "00", "-0", "--1", "-", "+", "- 1", "-01", part + ".", part + ".0", part + "e0", part + "_0", "0x1", "1x", "x", "١", "\xff", part + "\t", part + "\n", "\n" + part, "1000000000", "-1000000000", "9999999999", "9223372036854775807", "9223372036854775808", "18446744073709551616", "-9223372036854775808", "-9223372036854775809", "99999999999999999999", "4294967296"} {
				with(digits)
			}
		}
		bad = append(bad, word+strings.Join(rest, " ")+"x", strings.ToUpper(line), " "+line, strings.Replace(line, " ", "\t", 1)+"\t")
		if rest := line[len(line)-1]; rest != 'x' { // there is no text
			bad = append(bad, line+" ", line+"  ", line+" x", line+" 1", line+"\n", line+"\x00")
		}
		bad = append(bad, strings.Replace(line, word+" ", word+"  ", 1)+"\x00\x00")
	}
	bad = slices.DeleteFunc(bad, func(line string) bool { // but for what has the form all the same
		_, _, _, is := readOf(line)
		return is
	})
	if len(bad) < 900 {
		t.Fatalf("there are %d lines", len(bad))
	}
	for _, lines := range places() {
		holdRefused(t, lines, api.ErrForm, bad...)
	}
}

// P12.1: each line that has the form is read by its word, numbers and text; whatever it
// says, it is not ErrForm, but for words that are none in a motion or a paper.
func TestP12_1FormOf(t *testing.T) {
	for _, lines := range places() {
		for _, line := range all() {
			_, errors := run(t, append(slices.Clone(lines), line))
			if errors[len(lines)] == api.ErrForm {
				t.Fatalf("behind %q, %q has not the form", lines, line)
			}
			for i := range strings.Count(line, " ") {
				for _, n := range []string{"999999999", "-999999999", "-1", "0", "10", "100000000", "-100000000", "-10"} {
					parts := strings.Split(line, " ")
					if parts[i+1] == "x" {
						continue
					}
					parts[i+1] = n
					other := strings.Join(parts, " ")
					errors := holdRun(t, append(slices.Clone(lines), other))
					if errors[len(lines)] == api.ErrForm {
						t.Fatalf("behind %q, %q has not the form", lines, other)
					}
				}
			}
		}
	}
}

// P12.1: a text is all that is left, with its blanks.
func TestP12_1Texts(t *testing.T) {
	for _, text := range []string{"x", " x", "x ", "  x  y  ", " ", "   ", "1", "-1", "1 2 3", "say 1 x", "~", strings.Repeat("a ", 100)} {
		holdState(t, []string{"say 7 " + text}, desk.State{Volume: draft(part(0, 7, text))})
		s := made(t, "say 7 a", "bind 1 1 10", "day 1", "change 1 7 "+text, "add 2 7 8 "+text)
		if s.Errata[0].Text != text || s.Errata[1].Text != text {
			t.Fatalf("the errata say %v, not %q", s.Errata, text)
		}
	}
	// A text of any bytes has the form; it is another question whether it may be said.
	for _, text := range []string{"", "\x00", "\x1f", "\x7f", "é", "\xff", "a\nb", "\t", "x\n", "\r"} {
		holdRefused(t, nil, api.ErrArg, "say 7 "+text)
		holdRefused(t, split("say 7 a;bind 1 1 10;day 1"), api.ErrArg, "change 1 7 "+text, "add 1 7 8 "+text)
	}
}

// P12.1: the words of a text are between blanks, and several blanks are one.
func TestP12_1Words(t *testing.T) {
	for text, want := range map[string][]string{
		"": nil, " ": nil, "    ": nil, "a": {"a"}, " a": {"a"}, "a ": {"a"}, "a b": {"a", "b"}, "a  b": {"a", "b"}, "   a    b  c   ": {"a", "b", "c"}, "a,b;c": {"a,b;c"}, "a a": {"a", "a"}, "1 -1": {"1", "-1"}, "! ~": {"!", "~"},
	} {
		holdState(t, []string{"move " + text}, desk.State{Moved: true, Motion: paper.Motion{Words: want}})
		holdState(t, []string{"move x", "paper 1 0 0 1 " + text}, desk.State{Moved: true, Motion: paper.Motion{Words: []string{"x"}, Papers: []paper.Paper{{Number: 1, From: 0, To: 1, Words: want}}}})
	}
	for _, text := range []string{"a\tb", "a\nb", "\n", "a\x00", "\x7f", "é", "\xff", "a\u00a0b", "a\u2003b", strings.Repeat("x", 21), "a " + strings.Repeat("x", 21)} {
		holdRefused(t, nil, api.ErrForm, "move "+text)
		holdRefused(t, []string{"move x"}, api.ErrForm, "paper 1 0 0 1 "+text)
	}
	long := strings.Repeat("a ", 59) + strings.Repeat("x", 20)
	s := made(t, "move "+long, "paper 1 0 0 60 "+long)
	if len(s.Motion.Words) != 60 || len(s.Motion.Papers[0].Words) != 60 || len(s.Motion.Words[59]) != 20 {
		t.Fatalf("sixty words: %v", s.Motion)
	}
	holdRefused(t, nil, api.ErrLimit, "move "+strings.Repeat("a ", 61))
	holdRefused(t, []string{"move " + long}, api.ErrLimit, "paper 1 0 0 60 "+strings.Repeat("a  ", 61))
}

// P12.1: too many lines, or one that is too long.
func TestP12_1Limits(t *testing.T) {
	sixty := slices.Repeat([]string{"day 1"}, 60)
	holdState(t, sixty, desk.State{Day: 1})
	long := "say 1 " + strings.Repeat("x", 394)
	if _, errors := run(t, []string{long, strings.Repeat(" ", 400), strings.Repeat("\xff", 400)}); !slices.Equal(errors, []api.Errno{api.ErrArg, api.ErrForm, api.ErrForm}) {
		t.Fatalf("lines of 400 bytes: %v", errors)
	}
	for _, lines := range [][]string{append(sixty, "day 1"), slices.Repeat([]string{""}, 61), slices.Repeat(sixty, 20), {long + "x"}, {"day 1", strings.Repeat("x", 401)}, {strings.Repeat("é", 201)}, {"", "", strings.Repeat("x", 100000)}} {
		if s, errors, e := desk.Run(lines); !same(s, desk.State{}) || errors != nil || e != api.ErrLimit {
			t.Fatalf("Run of %d lines: %+v, %v, %v", len(lines), s, errors, e)
		}
	}
}

// P12.1: sessions of all kinds.
func TestP12_1Many(t *testing.T) {
	d := dice(1)
	accepted, seen := map[string]int{}, map[api.Errno]int{}
	for range 1500 {
		lines := d.session(d.roll(1, 58))
		counted(accepted, seen, lines, holdRun(t, lines))
	}
	for range 300 {
		lines := d.bound(d.roll(20, 58))
		counted(accepted, seen, lines, holdRun(t, lines))
	}
	for _, line := range all() {
		if word, _, _ := strings.Cut(line, " "); accepted[word] < 200 {
			t.Errorf("%q was accepted %d times", word, accepted[word])
		}
	}
	for _, e := range []api.Errno{api.ErrArg, api.ErrRange, api.ErrForm, api.ErrTwice, api.ErrNone, api.ErrState, api.ErrFail, api.ErrGap} {
		if seen[e] < 20 {
			t.Errorf("%v was returned %d times", e, seen[e])
		}
	}
}

// allRows calls what is done for all rows of so many of the lines.
func allRows(lines []string, count int, do func([]string)) {
	if count == 0 {
		do(nil)
		return
	}
	allRows(lines, count-1, func(ahead []string) {
		for _, line := range lines {
			do(append(slices.Clone(ahead), line))
		}
	})
}

// P12.1: all short sessions of some lines.
func TestP12_1AllShort(t *testing.T) {
	for _, x := range []struct {
		start, lines string
		count        int
	}{
		{"", "day 1;day 2;say 1 x;say 2 y;bind 1 1 10;change 1 1 z;cite 1 2;hide 1 0 5", 4},
		{"say 1 x;bind 1 1 10", "day 1;day 2;change 1 1 y;remove 2 1;add 3 1 2 z;change 2 2 y;cite 2 2;hide 2 1 1", 4},
		{"house 2", "house 1;divide 0 0 1 1;tell 1 0 0;tell 1 1 0;tell 2 0 1;tell 2 1 0;pair 0 1;result", 4},
		{"move a b", "move c;paper 1 0 0 1 c;paper 2 1 0 1 d;paper 3 0 0 2 e;adopt 1;adopt 2;adopt 3;order 1", 4},
		{"move a", "order 1;say 2 x;bind 1 1 10;paper 1 0 0 0 b;adopt 1;house 1;divide 1 0 0 1;result;day 1", 4},
	} {
		allRows(split(x.lines), x.count, func(l []string) { holdRun(t, append(split(x.start), l...)) })
	}
}

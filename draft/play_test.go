package draft_test

import (
	"math"
	"slices"
	"strings"
	"testing"

	"palantype/api"
	"palantype/draft"
)

// sameTrace says whether both traces are; nil and lists of no elements are.
func sameTrace(a, b draft.Trace) bool {
	return slices.Equal(a.Sources, b.Sources) && a.First == b.First && a.Last == b.Last && slices.Equal(a.Reporters, b.Reporters)
}

// compare holds what Play, Undoable and Traces return against the answer.
func compare(t *testing.T, d draft.Draft, steps []draft.Step, want answer) {
	t.Helper()
	items, live, step, e1 := draft.Play(d, steps)
	undoable, e2 := draft.Undoable(d, steps)
	traces, lost, e3 := draft.Traces(d, steps)
	code, fails := api.OK, 0
	if want.fails != -1 {
		code, fails = api.ErrFail, want.fails
	}
	if e1 != code || e2 != code || e3 != code || step != fails {
		t.Fatalf("%v, %v: %v, %v, %v, step %d; not %v, step %d", d, steps, e1, e2, e3, step, code, fails)
	}
	if !slices.Equal(items, want.items) || !slices.Equal(live, want.live) {
		t.Fatalf("Play of %v, %v: %v, %v; not %v, %v", d, steps, items, live, want.items, want.live)
	}
	if !slices.Equal(undoable, want.undoable) {
		t.Fatalf("Undoable of %v, %v: %v, not %v", d, steps, undoable, want.undoable)
	}
	if !slices.EqualFunc(traces, want.traces, sameTrace) || !slices.Equal(lost, want.lost) {
		t.Fatalf("Traces of %v, %v: %v, %v; not %v, %v", d, steps, traces, lost, want.traces, want.lost)
	}
}

// refused holds that Play, Undoable and Traces return the error, and Play the
// step, and nothing else.
func refused(t *testing.T, d draft.Draft, steps []draft.Step, want api.Errno, at int) {
	t.Helper()
	items, live, step, e := draft.Play(d, steps)
	if len(items) != 0 || len(live) != 0 || step != at || e != want {
		t.Errorf("Play of %v, %v: %v, %v, %d, %v; not %d, %v", d, steps, items, live, step, e, at, want)
	}
	if undoable, e := draft.Undoable(d, steps); len(undoable) != 0 || e != want {
		t.Errorf("Undoable of %v, %v: %v, %v, not %v", d, steps, undoable, e, want)
	}
	if traces, lost, e := draft.Traces(d, steps); len(traces) != 0 || len(lost) != 0 || e != want {
		t.Errorf("Traces of %v, %v: %v, %v, %v, not %v", d, steps, traces, lost, e, want)
	}
}

// one has this word alone.
func one(text string, second, reporter int) draft.Draft {
	return draft.Draft{Words: []draft.Word{{Text: text, Second: second, Reporter: reporter}}}
}

// words returns so many words, and rising so many indices.
func words(many int) []draft.Word { return speech(strings.Repeat("a ", many)).Words }

func rising(many int) []int {
	var l []int
	for i := range many {
		l = append(l, i)
	}
	return l
}

// invalid returns drafts that are not as described.
func invalid() []draft.Draft {
	fall := speech("a b c")
	fall.Words[2].Second = 0
	return []draft.Draft{
		one("", 0, 0), one(strings.Repeat("x", api.MaxWord+1), 0, 0), one(strings.Repeat("x", 5000), 0, 0),
		one("a b", 0, 0), one(" ", 0, 0), one("\x7f", 0, 0), one("a\n", 0, 0), one("\x00a", 0, 0), one("\u00e9", 0, 0), one("a\xff", 0, 0),
		one("a", -1, 0), one("a", api.MaxSound+1, 0), one("a", math.MinInt, 0), one("a", math.MaxInt, 0),
		one("a", 0, -1), one("a", 0, api.MaxReporter+1), one("a", 0, math.MinInt), one("a", 0, math.MaxInt),
		fall,
		{Words: words(api.MaxDraft + 1)}, {Words: words(1000)},
		{Kept: []int{0}}, {Kept: []int{-1}}, speech("a b", 2), speech("a b", -1), speech("a b", 0, 2), speech("a b", 1, 0), speech("a b", 0, 0), speech("a b", 0, 1, 1),
		speech("a b", math.MaxInt), speech("a b", math.MinInt), speech("a b", 0, math.MaxInt, 1), speech("a b", make([]int, 1000)...),
	}
}

// P3.1
func TestP3_1CheckDraft(t *testing.T) {
	every := ""
	for b := byte(33); b <= 126; b++ {
		every += string(b) + " "
	}
	all := strings.Fields(every)
	for _, d := range []draft.Draft{
		{}, example(), speech("a b c"), speech("a b c", 0), speech("a b c", 2), speech("a b c", 0, 1, 2), speech("a b c", 0, 2),
		speech(strings.Join(all[:47], " ")), speech(strings.Join(all[47:], " ")), one("!~", 0, 0), one(strings.Repeat("~", api.MaxWord), api.MaxSound, api.MaxReporter), one("a", api.MaxSound, 0), one("a", 0, api.MaxReporter),
		{Words: words(api.MaxDraft)}, {Words: words(api.MaxDraft), Kept: rising(api.MaxDraft)},
		{Words: slices.Repeat(one("a", 5, 5).Words, 3), Kept: []int{}}, {Words: []draft.Word{}},
	} {
		if e := draft.CheckDraft(d); e != api.OK {
			t.Errorf("CheckDraft of %v: %v", d, e)
		}
	}
	for _, d := range invalid() {
		if e := draft.CheckDraft(d); e != api.ErrArg {
			t.Errorf("CheckDraft of %v: %v", d, e)
		}
	}
}

// P3.1: what is visible, and which changes are live.
func TestP3_1Play(t *testing.T) {
	d := speech("a b c d e")
	edited := []draft.Step{change(3, 1), change(4, 0, "that"), change(1, 2, "Member")}
	for _, x := range []struct {
		d     draft.Draft
		steps []draft.Step
		want  string
		live  []int
	}{
		// The examples of the chapter.
		{example(), edited, "the Member says that no", []int{1, 2, 3}},
		{example(), append(edited[:3:3], undo(1)), "the Member er says that no", []int{2, 3}},
		{d, nil, "a b c d e", nil},
		{draft.Draft{}, nil, "", nil},
		{draft.Draft{}, []draft.Step{change(0, 0, "x")}, "x", []int{1}},
		// As much as there may be, at both ends.
		{d, []draft.Step{change(0, 4, "w", "x", "y", "z")}, "w x y z e", []int{1}},
		{d, []draft.Step{change(1, 4)}, "a", []int{1}},
		{d, []draft.Step{change(5, 0, "w", "x", "y", "z")}, "a b c d e w x y z", []int{1}},
		{d, []draft.Step{change(0, 0, strings.Repeat("~", 32), "!")}, strings.Repeat("~", 32) + " ! a b c d e", []int{1}},
		{one("a", 0, 0), []draft.Step{change(0, 1)}, "", []int{1}},
		{one("a", 0, 0), []draft.Step{change(0, 1), change(0, 0, "x"), undo(1)}, "x a", []int{2}},
		// Where things are put: ahead of what is taken away, even if others
		// that were taken away stand before; otherwise behind what is visible.
		{d, []draft.Step{change(1, 1), change(1, 1, "x"), undo(1)}, "a b x d e", []int{2}},
		{d, []draft.Step{change(1, 1), change(0, 1, "x"), undo(1)}, "x b c d e", []int{2}},
		{d, []draft.Step{change(1, 1), change(1, 0, "x"), undo(1)}, "a x b c d e", []int{2}},
		{d, []draft.Step{change(0, 1), change(0, 0, "x"), undo(1)}, "x a b c d e", []int{2}},
		{d, []draft.Step{change(4, 1), change(4, 0, "x"), undo(1)}, "a b c d x e", []int{2}},
		{d, []draft.Step{change(0, 0, "x"), change(0, 0, "y"), change(2, 0, "z")}, "y x z a b c d e", []int{1, 2, 3}},
		// What stands in between is not taken away.
		{d, []draft.Step{change(1, 1), change(0, 2, "x"), undo(1)}, "x b d e", []int{2}},
		{d, []draft.Step{change(1, 1, "x"), change(1, 0, "y"), undo(1), change(0, 2)}, "b c d e", []int{2, 3}},
		// Undone, and in any order.
		{d, []draft.Step{change(1, 2, "x"), undo(1)}, "a b c d e", nil},
		{d, []draft.Step{change(1, 2, "x"), change(1, 1, "y"), undo(2), undo(1)}, "a b c d e", nil},
		{d, []draft.Step{change(0, 2, "x"), change(2, 2, "y"), undo(1)}, "a b c y", []int{2}},
		{d, []draft.Step{change(0, 2, "x"), change(2, 2, "y"), undo(2)}, "x c d e", []int{1}},
		{d, []draft.Step{change(0, 1, "x"), change(0, 1), undo(2), undo(1), change(0, 1)}, "b c d e", []int{3}},
		// Numbers count the changes, and no others.
		{d, []draft.Step{change(0, 1), undo(1), change(0, 1), undo(2), change(0, 1)}, "b c d e", []int{3}},
		// What a step that undoes says besides means nothing.
		{d, []draft.Step{change(0, 1), {Undo: 1, At: -5, Cut: 99, Put: make([]string, 9)}}, "a b c d e", nil},
		// Beside a protected word.
		{speech("a b c", 1), []draft.Step{change(0, 1), change(0, 0, "x"), change(2, 1, "y")}, "x b y", []int{1, 2, 3}},
		// What is put is not protected, whatever it is.
		{speech("a b c", 0, 1, 2), []draft.Step{change(0, 0, "a"), change(0, 1, "b"), change(0, 1)}, "a b c", []int{1, 2, 3}},
	} {
		l, live, step, e := draft.Play(x.d, x.steps)
		if read(l) != x.want || !slices.Equal(live, x.live) || step != 0 || e != api.OK {
			t.Errorf("Play of %v: %q, %v, %d, %v", x.steps, read(l), live, step, e)
		}
	}
	l, _, _, _ := draft.Play(example(), edited)
	if want := []draft.Item{{Text: "the"}, {Text: "Member", Origin: -1, Maker: 3}, {Text: "says", Origin: 4}, {Text: "that", Origin: -1, Maker: 2}, {Text: "no", Origin: 5}}; !slices.Equal(l, want) {
		t.Errorf("Play, the items: %v", l)
	}
}

// P3.1: a step that cannot be, at its index.
func TestP3_1PlayFails(t *testing.T) {
	d := speech("a b c d e")
	good := change(0, 1)
	for _, x := range []draft.Step{
		change(6, 0, "x"), change(5, 1), change(4, 2), change(2, 4), change(-1, 0, "x"), change(-1, 1), change(math.MaxInt, 0, "x"), change(math.MaxInt, 1), change(math.MinInt, 1), change(math.MinInt, 0, "x"),
		change(0, 5), change(0, -1, "x"), change(1, -1, "x"), change(0, math.MaxInt), change(0, math.MinInt, "x"), change(math.MaxInt, math.MaxInt), change(1, math.MaxInt),
		change(0, 0), change(5, 0), {At: 3, Put: []string{}},
		change(0, 0, ""), change(0, 1, "x", ""), change(0, 0, "a b"), change(0, 0, "\x7f"), change(0, 0, "x", "y", "z", "\u00e9"), change(0, 0, strings.Repeat("x", 33)), change(0, 0, "a", "b", "c", "d", "e"), change(0, 1, make([]string, 1000)...),
		undo(1), undo(2), undo(-1), undo(math.MaxInt), undo(math.MinInt),
		{Undo: 1, Cut: 1}, {Undo: -1, Cut: 1}, {Undo: 2, Put: []string{"x"}}, {Undo: math.MinInt, Put: []string{"x"}},
	} {
		refused(t, d, []draft.Step{x}, api.ErrFail, 0)
		if x.Undo != 1 {
			refused(t, d, []draft.Step{good, x, good}, api.ErrFail, 1)
			refused(t, d, []draft.Step{good, undo(1), x, undo(1)}, api.ErrFail, 2)
		}
	}
	for _, x := range []struct {
		d     draft.Draft
		steps []draft.Step
		step  int
	}{
		// The example of the chapter.
		{example(), []draft.Step{change(5, 1)}, 0},
		// A protected word, at each end and in the middle.
		{speech("a b c", 1), []draft.Step{change(0, 1), change(0, 2, "x")}, 1},
		{speech("a b c", 1), []draft.Step{change(2, 1), change(0, 2, "x")}, 1},
		{speech("a b c", 1), []draft.Step{change(0, 3, "x")}, 0},
		{speech("a b c", 0, 2), []draft.Step{change(1, 1), change(1, 1, "c")}, 1},
		// Nothing is left.
		{one("a", 0, 0), []draft.Step{change(0, 1), change(0, 1)}, 1},
		{draft.Draft{}, []draft.Step{change(0, 1)}, 0},
		// Undone already.
		{d, []draft.Step{change(0, 1), undo(1), undo(1)}, 2},
		// What it put was taken away, all of it or some; and what took it away
		// is not undone yet.
		{d, []draft.Step{change(1, 1, "x"), change(1, 1, "y"), undo(1)}, 2},
		{d, []draft.Step{change(1, 1, "x", "y", "z"), change(3, 1), undo(1)}, 2},
		{d, []draft.Step{change(1, 1, "x"), change(1, 1, "y"), change(1, 1, "z"), undo(3), undo(1)}, 4},
		// A number that comes only later.
		{d, []draft.Step{change(0, 1), undo(2), change(0, 1)}, 1},
	} {
		refused(t, x.d, x.steps, api.ErrFail, x.step)
	}
}

// P3.1, P3.2, P3.3: what is refused, in the order of the table of errors.
func TestP3_1P3_2P3_3Refused(t *testing.T) {
	bad := change(-1, 0)
	for _, d := range invalid() {
		refused(t, d, nil, api.ErrArg, 0)
		refused(t, d, []draft.Step{change(0, 0, "x"), bad}, api.ErrArg, 0)
		refused(t, d, make([]draft.Step, api.MaxSteps+1), api.ErrArg, 0)
	}
	steps := slices.Repeat([]draft.Step{change(0, 0, "x")}, api.MaxSteps)
	if l, live, step, e := draft.Play(example(), steps); len(l) != 86 || len(live) != 80 || step != 0 || e != api.OK {
		t.Errorf("Play of %d steps: %v, %v, %d, %v", len(steps), l, live, step, e)
	}
	steps[79] = bad
	refused(t, example(), steps, api.ErrFail, 79)
	refused(t, example(), append(steps, change(0, 0, "x")), api.ErrLimit, 0)
	refused(t, example(), make([]draft.Step, api.MaxSteps+1), api.ErrLimit, 0)
	refused(t, example(), make([]draft.Step, 1000), api.ErrLimit, 0)
}

// P3.1, P3.2, P3.3: all rows of up to three small steps.
func TestP3_1P3_2P3_3SmallSteps(t *testing.T) {
	small := []draft.Step{undo(-1), undo(1), undo(2), undo(3), change(0, 3)}
	for at := range 4 {
		for cut := range 3 {
			for _, put := range [][]string{nil, {"x"}, {"x", "y"}} {
				small = append(small, change(at, cut, put...))
			}
		}
	}
	var hold func(d draft.Draft, steps []draft.Step)
	held, failed := 0, 0
	hold = func(d draft.Draft, steps []draft.Step) {
		want := answerOf(d, steps)
		compare(t, d, steps, want)
		held++
		// Behind a step that cannot be it is all the same what comes.
		if want.fails != -1 {
			failed++
		} else if len(steps) < 3 {
			for _, x := range small {
				hold(d, append(steps[:len(steps):len(steps)], x))
			}
		}
	}
	for _, d := range []draft.Draft{speech("a b"), speech("a b", 1), {}} {
		hold(d, nil)
	}
	if held < 20000 || failed < 5000 {
		t.Errorf("%d rows of steps, of which %d failed", held, failed)
	}
}

// P3.1, P3.2, P3.3: many steps, and one that may fail.
func TestP3_1P3_2P3_3Steps(t *testing.T) {
	d := dice(1)
	var done, undone, failed, locked, lost int
	for range 3000 {
		x := d.draft(8)
		steps := d.steps(x, d.roll(0, 40))
		p := pageAfter(x, steps)
		a := p.answer()
		compare(t, x, steps, a)
		done += len(p.done)
		undone += len(p.done) - len(a.live)
		locked += len(a.live) - len(a.undoable)
		lost += len(a.lost)
		steps = append(steps, d.step(p))
		a = answerOf(x, steps)
		compare(t, x, steps, a)
		if a.fails != -1 {
			failed++
		}
	}
	if done < 20000 || undone < 5000 || failed < 1000 || locked < 5000 || lost < 1500 {
		t.Errorf("%d changes, %d undone, %d not to be undone; %d steps failed, %d words were lost", done, undone, locked, failed, lost)
	}
}

// P3.1, P3.2, P3.3: as much as there may be of all things.
func TestP3_1P3_2P3_3Large(t *testing.T) {
	d := dice(2)
	for range 60 {
		x := draft.Draft{Words: words(api.MaxDraft)}
		for i := range x.Words {
			x.Words[i] = draft.Word{Text: d.text(), Second: i * 600, Reporter: d.roll(0, api.MaxReporter)}
		}
		p := pageOf(x)
		var steps []draft.Step
		for len(steps) < api.MaxSteps {
			s := change(d.roll(0, len(p.shown())), d.roll(0, 4), d.texts(0, 4)...)
			if d.roll(1, 5) == 1 {
				s = undo(d.roll(1, len(p.done)+1))
			}
			if p.can(s) {
				p.take(s)
				steps = append(steps, s)
			}
		}
		compare(t, x, steps, p.answer())
	}
}

// P3.2
func TestP3_2Undoable(t *testing.T) {
	d := speech("a b c d e")
	locked := []draft.Step{change(1, 1, "x"), change(3, 1), change(1, 2, "y"), change(0, 0, "z")}
	for _, x := range []struct {
		d     draft.Draft
		steps []draft.Step
		want  []int
	}{
		// The example of the chapter.
		{example(), []draft.Step{change(3, 1), change(4, 0, "that"), change(1, 2, "Member")}, []int{1, 2, 3}},
		{d, nil, nil},
		{draft.Draft{}, nil, nil},
		{d, []draft.Step{change(0, 1), undo(1)}, nil},
		// The third change took away the x of the first one.
		{d, locked, []int{2, 3, 4}},
		{d, append(locked[:4:4], undo(3)), []int{1, 2, 4}},
		{d, append(locked[:4:4], undo(3), undo(1)), []int{2, 4}},
		{d, append(locked[:4:4], undo(2)), []int{3, 4}},
		// Some of what it put.
		{d, []draft.Step{change(0, 0, "x", "y"), change(0, 1)}, []int{2}}, {d, []draft.Step{change(0, 0, "x", "y"), change(1, 2)}, []int{2}},
		// Nothing of it, but words at both sides.
		{d, []draft.Step{change(1, 0, "x"), change(0, 1), change(1, 1)}, []int{1, 2, 3}},
		// It put nothing.
		{d, []draft.Step{change(1, 1), change(0, 4)}, []int{1, 2}},
		// One after the other.
		{d, []draft.Step{change(0, 1, "x"), change(0, 1, "y"), change(0, 1, "z")}, []int{3}}, {d, []draft.Step{change(0, 1, "x"), change(0, 1, "y"), change(0, 1, "z"), undo(3)}, []int{2}},
		// One that took away is undone, another one is not.
		{d, []draft.Step{change(0, 0, "x", "y"), change(0, 1), change(0, 1), undo(2)}, []int{3}}, {d, []draft.Step{change(0, 0, "x", "y"), change(0, 1), change(0, 1), undo(2), undo(3)}, []int{1}},
	} {
		if l, e := draft.Undoable(x.d, x.steps); !slices.Equal(l, x.want) || e != api.OK {
			t.Errorf("Undoable of %v: %v, %v, not %v", x.steps, l, e, x.want)
		}
	}
}

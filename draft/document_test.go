package draft_test

import (
	"math"
	"reflect"
	"slices"
	"strings"
	"testing"

	"palantype/api"
	"palantype/draft"
)

// This file tests what DOC.md promises of each layer, for this one.

// input is what the calls are given.
type input struct {
	D     draft.Draft
	Steps []draft.Step
	Rules []draft.Rule
}

// output is what all calls return for it; Codes has their errors, by order.
type output struct {
	Items  []draft.Item
	Live   []int
	Step   int
	Undo   []int
	Traces []draft.Trace
	Lost   []int
	Style  []draft.Step
	Codes  [5]api.Errno
}

func callAll(x input) (y output) {
	y.Codes[0] = draft.CheckDraft(x.D)
	y.Items, y.Live, y.Step, y.Codes[1] = draft.Play(x.D, x.Steps)
	y.Undo, y.Codes[2] = draft.Undoable(x.D, x.Steps)
	y.Traces, y.Lost, y.Codes[3] = draft.Traces(x.D, x.Steps)
	y.Style, y.Codes[4] = draft.Style(x.D, x.Rules)
	return y
}

// list returns a copy with memory of its own; without elements it is nil, or
// as empty says.
func list[T any](l []T, empty bool) []T {
	if empty {
		return append([]T{}, l...)
	}
	return append([]T(nil), l...)
}

// copied returns a copy that shares no memory; lists of no elements are nil, or
// as empty says.
func copied(x input, empty bool) input {
	x.D.Words, x.D.Kept = list(x.D.Words, empty), list(x.D.Kept, empty)
	x.Steps, x.Rules = list(x.Steps, empty), list(x.Rules, empty)
	for i := range x.Steps {
		x.Steps[i].Put = list(x.Steps[i].Put, empty)
	}
	for i := range x.Rules {
		x.Rules[i] = draft.Rule{Find: list(x.Rules[i].Find, empty), Put: list(x.Rules[i].Put, empty)}
	}
	return x
}

// settled returns a copy of the output; lists of no elements are nil.
func settled(y output) output {
	y.Items, y.Live, y.Undo, y.Lost = list(y.Items, false), list(y.Live, false), list(y.Undo, false), list(y.Lost, false)
	y.Traces, y.Style = list(y.Traces, false), list(y.Style, false)
	for i, x := range y.Traces {
		y.Traces[i].Sources, y.Traces[i].Reporters = list(x.Sources, false), list(x.Reporters, false)
	}
	for i, x := range y.Style {
		y.Style[i].Put = list(x.Put, false)
	}
	return y
}

// scribble writes into all memory of the output, also behind the ends of its
// lists.
func scribble(y output) {
	numbers := [][]int{y.Live, y.Undo, y.Lost}
	for _, x := range y.Traces {
		numbers = append(numbers, x.Sources, x.Reporters)
	}
	for _, l := range numbers {
		for i := range l[:cap(l)] {
			l[:cap(l)][i] = -7
		}
	}
	for i := range y.Items {
		y.Items[i].Text = "scribbled"
	}
	for _, x := range y.Style {
		for i := range x.Put[:cap(x.Put)] {
			x.Put[:cap(x.Put)][i] = "scribbled"
		}
	}
}

// strange throws a number that a caller may give by mistake, or any small one.
func (d *dice) strange() int {
	l := []int{math.MinInt, math.MinInt + 1, -1 << 32, -1, 0, 1, 4, 5, api.MaxDraft, api.MaxSteps, api.MaxReporter, api.MaxReporter + 1, api.MaxSound, api.MaxSound + 1, 1 << 31, 1 << 32, math.MaxInt - 1, math.MaxInt}
	if d.roll(0, 1) == 0 {
		return d.roll(-2, 20)
	}
	return l[d.roll(0, len(l)-1)]
}

// strangeText throws a text, which mostly is none.
func (d *dice) strangeText() string {
	l := []string{"", " ", "a b", "\x00", "\x7f", "\xff", "\u00e9", "a", "~", "!", strings.Repeat("x", 32), strings.Repeat("x", 33), strings.Repeat("y", 5000)}
	return l[d.roll(0, len(l)-1)]
}

// numbers and texts return where those of the input stand.
func (x *input) numbers() []*int {
	var l []*int
	for i := range x.D.Words {
		l = append(l, &x.D.Words[i].Second, &x.D.Words[i].Reporter)
	}
	for i := range x.D.Kept {
		l = append(l, &x.D.Kept[i])
	}
	for i := range x.Steps {
		l = append(l, &x.Steps[i].Undo, &x.Steps[i].At, &x.Steps[i].Cut)
	}
	return l
}

func (x *input) texts() []*string {
	var l []*string
	for i := range x.D.Words {
		l = append(l, &x.D.Words[i].Text)
	}
	for i := range x.Steps {
		for k := range x.Steps[i].Put {
			l = append(l, &x.Steps[i].Put[k])
		}
	}
	for i := range x.Rules {
		for _, texts := range [][]string{x.Rules[i].Find, x.Rules[i].Put} {
			for k := range texts {
				l = append(l, &texts[k])
			}
		}
	}
	return l
}

// input throws an input that is valid, or has something strange somewhere, or
// is strange everywhere, or is large.
func (d *dice) input() input {
	var x input
	x.D = d.draft(8)
	x.Steps = d.steps(x.D, d.roll(0, 20))
	x.Rules = d.rules(6)
	x = copied(x, false)
	switch numbers, texts := x.numbers(), x.texts(); d.roll(0, 7) {
	case 0, 1:
		if len(numbers) > 0 {
			*numbers[d.roll(0, len(numbers)-1)] = d.strange()
		}
	case 2, 3:
		if len(texts) > 0 {
			*texts[d.roll(0, len(texts)-1)] = d.strangeText()
		}
	case 4:
		for _, n := range numbers {
			*n = d.strange()
		}
		for _, s := range texts {
			*s = d.strangeText()
		}
	case 5:
		x.Steps = slices.Repeat(append(x.Steps, change(0, 0, "x")), d.roll(1, 20))
		x.Rules = slices.Repeat(append(x.Rules, rule("a", "a b a")), d.roll(1, 3))
	}
	return x
}

// P1, with R2: each call returns; beside an error it returns nothing else, but
// Play the step that cannot be.
func TestP1AllReturn(t *testing.T) {
	d := dice(1000)
	seen := map[api.Errno]int{}
	for range 8000 {
		x := d.input()
		y := callAll(x)
		for _, e := range y.Codes {
			seen[e]++
		}
		zero := [...]bool{true, len(y.Items) == 0 && len(y.Live) == 0, len(y.Undo) == 0, len(y.Traces) == 0 && len(y.Lost) == 0, len(y.Style) == 0}
		for i, z := range zero {
			if y.Codes[i] != api.OK && !z {
				t.Fatalf("%v: the call %d returns %v, and more", x, i, y.Codes[i])
			}
			if y.Codes[0] != api.OK && y.Codes[i] != y.Codes[0] {
				t.Fatalf("%v: CheckDraft returns %v; the others %v", x, y.Codes[0], y.Codes)
			}
		}
		if y.Codes[1] != y.Codes[2] || y.Codes[1] != y.Codes[3] || y.Step < 0 || y.Step > len(x.Steps) || y.Step != 0 && y.Codes[1] != api.ErrFail {
			t.Fatalf("%v: %v, step %d", x, y.Codes, y.Step)
		}
	}
	for _, e := range []api.Errno{api.OK, api.ErrArg, api.ErrLimit, api.ErrFail} {
		if seen[e] < 500 {
			t.Errorf("%v was returned %d times", e, seen[e])
		}
	}
}

// R3 and R4: lists without elements are all the same, no call writes into an
// argument, what is returned is new memory, and nothing is remembered.
func TestR3R4Memory(t *testing.T) {
	d := dice(1001)
	var last input
	for range 2000 {
		x := d.input()
		kept := copied(x, false)
		first := callAll(x)
		want := settled(first)
		if !reflect.DeepEqual(copied(x, false), kept) {
			t.Fatalf("%v has become %v", kept, x)
		}
		callAll(last)
		if y := settled(callAll(copied(x, true))); !reflect.DeepEqual(y, want) {
			t.Fatalf("%v: %v, and then %v", x, want, y)
		}
		scribble(first)
		if !reflect.DeepEqual(copied(x, false), kept) {
			t.Fatalf("what is returned for %v has memory of it", kept)
		}
		if y := settled(callAll(x)); !reflect.DeepEqual(y, want) {
			t.Fatalf("%v: %v, and then %v", x, want, y)
		}
		last = x
	}
}

// R4: no list of a result has memory of another one, nor of an argument behind
// its end.
func TestR4ListsApart(t *testing.T) {
	steps := []draft.Step{change(1, 2, "x", "y", "z"), change(0, 0, "w"), change(5, 1)}
	traces, lost, _ := draft.Traces(example(), steps)
	lists := [][]int{lost}
	for _, x := range traces {
		lists = append(lists, x.Sources, x.Reporters)
	}
	for i, l := range lists {
		for k := range l[:cap(l)] {
			l[:cap(l)][k] = 100 + i
		}
	}
	for i, l := range lists {
		if slices.ContainsFunc(l, func(n int) bool { return n != 100+i }) {
			t.Fatalf("Traces: the list %d has become %v", i, l)
		}
	}
	put := append(make([]string, 0, 9), "x", "y")
	style, _ := draft.Style(speech("a a a"), []draft.Rule{{Find: []string{"a"}, Put: put}})
	for i := range style {
		style[i].Put = append(style[i].Put, "behind")
		style[i].Put[0] = string(rune('0' + i))
	}
	if put[0] != "x" || put[:3][2] != "" || len(style) != 3 || style[0].Put[0] != "0" || style[1].Put[0] != "1" {
		t.Errorf("Style: %v, of %v", style, put[:9])
	}
}

// P4: each word is followed to the words that were heard, or to the change that
// brought it; and what was changed can be taken back.
func TestP4EachWord(t *testing.T) {
	d := dice(1002)
	var heard, brought int
	for range 2000 {
		x := d.draft(8)
		steps := d.steps(x, 30)
		items, live, _, e := draft.Play(x, steps)
		traces, _, f := draft.Traces(x, steps)
		if e != api.OK || f != api.OK || len(items) != len(traces) {
			t.Fatalf("%v, %v: %v, %v; %v, %v", x, steps, items, e, traces, f)
		}
		for i, y := range items {
			if y.Origin != -1 {
				heard++
				if y.Maker != 0 || y.Text != x.Words[y.Origin].Text || !slices.Equal(traces[i].Sources, []int{y.Origin}) {
					t.Fatalf("%v, %v: %v, %v", x, steps, y, traces[i])
				}
				continue
			}
			brought++
			if !slices.Contains(live, y.Maker) || !slices.Contains(changesOf(steps)[y.Maker-1].Put, y.Text) {
				t.Fatalf("%v, %v: no change brought %v", x, steps, y)
			}
		}
		for _, number := range slices.Backward(live) {
			steps = append(steps, undo(number))
		}
		if l, _, _, e := draft.Play(x, steps); !isDraft(l, x) || e != api.OK {
			t.Fatalf("%v, %v: %v, %v", x, steps, l, e)
		}
	}
	if heard < 3000 || brought < 5000 {
		t.Errorf("%d words of drafts, %d of changes", heard, brought)
	}
	// Example 3 of the document.
	l, lost, e := draft.Traces(speech("the honourable member er says no"), []draft.Step{change(3, 1), change(1, 2, "Member")})
	if len(l) != 4 || !slices.Equal(l[1].Sources, []int{1, 2}) || !slices.Equal(lost, []int{3}) || e != api.OK {
		t.Errorf("Traces: %v, %v, %v", l, lost, e)
	}
}

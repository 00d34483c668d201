package draft_test

import (
	"slices"
	"strings"
	"testing"

	"palantype/api"
	"palantype/draft"
)

func sameStep(a, b draft.Step) bool {
	return a.Undo == b.Undo && a.At == b.At && a.Cut == b.Cut && slices.Equal(a.Put, b.Put)
}

// P3.4
func TestP3_4Style(t *testing.T) {
	a60 := draft.Draft{Words: words(60)}
	for _, x := range []struct {
		d     draft.Draft
		rules []draft.Rule
		steps []draft.Step
		want  string
	}{
		// The example of the chapter.
		{example(), []draft.Rule{rule("er", ""), rule("honourable member", "Member")}, []draft.Step{change(3, 1), change(1, 2, "Member")}, "the Member says no"},
		{example(), nil, nil, "the honourable member er says no"},
		{draft.Draft{}, []draft.Rule{rule("a", "b")}, nil, ""},
		{speech("a b"), []draft.Rule{rule("c", "d"), rule("a c", "d"), rule("b a", "d"), rule("a b b", "d")}, nil, "a b"},
		// One behind the other, at the ends too; nothing overlaps.
		{speech("um a um um b um"), []draft.Rule{rule("um", "")}, []draft.Step{change(0, 1), change(1, 1), change(1, 1), change(2, 1)}, "a b"},
		{speech("a a a a a"), []draft.Rule{rule("a a", "x")}, []draft.Step{change(0, 2, "x"), change(1, 2, "x")}, "x x a"},
		{speech("a b a b a"), []draft.Rule{rule("a b a", "x")}, []draft.Step{change(0, 3, "x")}, "x b a"},
		{speech("a a b"), []draft.Rule{rule("a b", "x")}, []draft.Step{change(1, 2, "x")}, "a x"},
		// It does not look back, nor at what it put itself.
		{speech("a a b b"), []draft.Rule{rule("a b", "")}, []draft.Step{change(1, 2)}, "a b"},
		{speech("a b a b"), []draft.Rule{rule("a b", "a")}, []draft.Step{change(0, 2, "a"), change(1, 2, "a")}, "a a"},
		{speech("a a"), []draft.Rule{rule("a", "a a")}, []draft.Step{change(0, 1, "a", "a"), change(2, 1, "a", "a")}, "a a a a"},
		{speech("b a b"), []draft.Rule{rule("b", "a b b"), rule("a b", "c")}, []draft.Step{change(0, 1, "a", "b", "b"), change(4, 1, "a", "b", "b"), change(0, 2, "c"), change(3, 2, "c")}, "c b a c b"},
		// The next rule begins at the first item, with what others put; each
		// rule is applied only once, in order.
		{speech("a a b b"), []draft.Rule{rule("a b", ""), rule("a b", "c")}, []draft.Step{change(1, 2), change(0, 2, "c")}, "c"},
		{speech("a b"), []draft.Rule{rule("a", "b"), rule("b", "c d")}, []draft.Step{change(0, 1, "b"), change(0, 1, "c", "d"), change(2, 1, "c", "d")}, "c d c d"},
		{speech("a b"), []draft.Rule{rule("b", "c"), rule("a", "b")}, []draft.Step{change(1, 1, "c"), change(0, 1, "b")}, "b c"},
		{speech("a b"), []draft.Rule{rule("c", "d"), rule("b", "c")}, []draft.Step{change(1, 1, "c")}, "a c"},
		{speech("a b"), []draft.Rule{rule("a", "b"), rule("b", "a"), rule("a", "b")}, []draft.Step{change(0, 1, "b"), change(0, 1, "a"), change(1, 1, "a"), change(0, 1, "b"), change(1, 1, "b")}, "b b"},
		// Find and Put are the same texts.
		{speech("a b a"), []draft.Rule{rule("a", "a"), rule("b a", "b a")}, []draft.Step{change(0, 1, "a"), change(2, 1, "a"), change(1, 2, "b", "a")}, "a b a"},
		// Protected words are passed over; what was put for others is not.
		{speech("a b a b", 1), []draft.Rule{rule("a b", "c")}, []draft.Step{change(2, 2, "c")}, "a b c"},
		{speech("a b a b", 2), []draft.Rule{rule("a b", "c")}, []draft.Step{change(0, 2, "c")}, "c a b"},
		{speech("a a a", 1), []draft.Rule{rule("a", "b"), rule("b", "a a"), rule("a a", "c")}, []draft.Step{change(0, 1, "b"), change(2, 1, "b"), change(0, 1, "a", "a"), change(3, 1, "a", "a"), change(0, 2, "c"), change(2, 2, "c")}, "c a c"},
		{speech("a b c d", 0, 1, 2, 3), []draft.Rule{rule("a", "b"), rule("b c", "b"), rule("a b c d", "b")}, nil, "a b c d"},
		// As much as there may be.
		{speech("a b c d a b c d"), []draft.Rule{rule("a b c d", "w x y z")}, []draft.Step{change(0, 4, "w", "x", "y", "z"), change(4, 4, "w", "x", "y", "z")}, "w x y z w x y z"},
		{one(strings.Repeat("~", 32), 0, 0), []draft.Rule{rule(strings.Repeat("~", 32), strings.Repeat("!", 32))}, []draft.Step{change(0, 1, strings.Repeat("!", 32))}, strings.Repeat("!", 32)},
		{speech("a"), slices.Repeat([]draft.Rule{rule("a", "a")}, 10), slices.Repeat([]draft.Step{change(0, 1, "a")}, 10), "a"},
		{speech("b"), append(slices.Repeat([]draft.Rule{rule("a", "a")}, 9), rule("b", "c")), []draft.Step{change(0, 1, "c")}, "c"},
	} {
		steps, e := draft.Style(x.d, x.rules)
		l, _, _, f := draft.Play(x.d, steps)
		if !slices.EqualFunc(steps, x.steps, sameStep) || e != api.OK || read(l) != x.want || f != api.OK {
			t.Errorf("Style of %v: %v, %v, %q, %v; not %v, %q", x.rules, steps, e, read(l), f, x.steps, x.want)
		}
	}
	// Just as many changes as there may be steps, and one more: 19 changes, 57,
	// and one leave two words a.
	a60.Words[59].Text = "c"
	many := []draft.Rule{rule("a a a", "b b b"), rule("b", "d"), rule("c", "d")}
	for _, x := range []struct {
		more  []draft.Rule
		steps int
		e     api.Errno
	}{
		{nil, 77, api.OK},
		{[]draft.Rule{rule("a", "e")}, 79, api.OK},
		{[]draft.Rule{rule("a", "e"), rule("e e", "e")}, 80, api.OK},
		{[]draft.Rule{rule("a", "e"), rule("e", "e")}, 0, api.ErrLimit},
	} {
		if steps, e := draft.Style(a60, slices.Concat(many, x.more)); len(steps) != x.steps || e != x.e {
			t.Errorf("Style with %v, too: %d steps, %v", x.more, len(steps), e)
		}
	}
}

// P3.4: what is refused, in the order of the table of errors.
func TestP3_4StyleRefused(t *testing.T) {
	long := strings.Repeat("x", 33)
	endless := []draft.Rule{rule("a", "a"), rule("a", "b")}
	bad := [][]draft.Rule{
		{{}}, {{Find: []string{}, Put: []string{"a"}}}, {rule("a b c d e", "")}, {rule("a", "a b c d e")},
		{{Find: []string{""}}}, {{Find: []string{"a", "b c"}}}, {{Find: []string{long}}}, {{Find: []string{"\u00e9"}}}, {{Find: []string{"a", "b", "c", "\x7f"}}},
		{{Find: []string{"a"}, Put: []string{""}}}, {{Find: []string{"a"}, Put: []string{"b", "c d"}}}, {{Find: []string{"a"}, Put: []string{long}}}, {{Find: []string{"a"}, Put: []string{"b", "c", "d", "\n"}}},
		{rule("a", "b"), rule("b", "c"), {}}, make([]draft.Rule, 11), make([]draft.Rule, 1000), slices.Repeat([]draft.Rule{rule("a", "b")}, 11),
		{{Find: make([]string, 1000)}}, {{Find: []string{"a"}, Put: make([]string, 1000)}},
		append(endless[:2:2], draft.Rule{}),
	}
	a60 := draft.Draft{Words: words(60)}
	for _, rules := range bad {
		for _, d := range []draft.Draft{{}, speech("a b"), a60} {
			if steps, e := draft.Style(d, rules); len(steps) != 0 || e != api.ErrArg {
				t.Errorf("Style of %v: %v, %v", rules, steps, e)
			}
		}
	}
	for _, d := range invalid() {
		for _, rules := range [][]draft.Rule{nil, {rule("a", "b")}, {{}}, endless} {
			if steps, e := draft.Style(d, rules); len(steps) != 0 || e != api.ErrArg {
				t.Errorf("Style of the draft %v: %v, %v", d, steps, e)
			}
		}
	}
	for _, rules := range [][]draft.Rule{endless, {rule("a", "b c d e"), rule("c", "c c c c"), rule("c", "c c c c")}, slices.Repeat([]draft.Rule{rule("a", "a a a a")}, 10), {rule("a", "b"), rule("b", "")}} {
		if steps, e := draft.Style(a60, rules); len(steps) != 0 || e != api.ErrLimit {
			t.Errorf("Style of %v: %v, %v", rules, steps, e)
		}
	}
}

// P3.4: thrown styles.
func TestP3_4Styles(t *testing.T) {
	d := dice(4)
	var made, over int
	for range 2500 {
		x, rules := d.draft(d.roll(0, 60)), d.rules(10)
		want, code := stylesOf(x, rules), api.OK
		if len(want) > api.MaxSteps {
			want, code = nil, api.ErrLimit
			over++
		}
		made += len(want)
		if steps, e := draft.Style(x, rules); !slices.EqualFunc(steps, want, sameStep) || e != code {
			t.Fatalf("Style of %v, %v: %v, %v; not %v, %v", x, rules, steps, e, want, code)
		}
	}
	if made < 20000 || over < 30 {
		t.Errorf("%d changes were made, %d styles made too many", made, over)
	}
}

// P3.10
func TestP3_10Style(t *testing.T) {
	d := dice(10)
	var made, single, open int
	for range 6000 {
		x, rules := d.draft(30), d.rules(d.roll(0, 3))
		steps, e := draft.Style(x, rules)
		if e == api.ErrLimit {
			continue
		}
		items, live, step, f := draft.Play(x, steps)
		if e != api.OK || f != api.OK || step != 0 || len(live) != len(steps) {
			t.Fatalf("%v, %v: %v, %v; Play: %v, %d, %v", x, rules, steps, e, live, step, f)
		}
		if len(rules) == 0 && len(steps) != 0 {
			t.Fatalf("%v without rules: %v", x, steps)
		}
		made += len(steps)
		if len(rules) != 1 || len(rules[0].Put) == 0 {
			continue
		}
		single += len(steps)
		find := rules[0].Find
		for i := range len(items) - len(find) + 1 {
			beside := items[i : i+len(find)]
			if read(beside) != strings.Join(find, " ") {
				continue
			}
			open++
			free := func(y draft.Item) bool { return y.Origin != -1 && !slices.Contains(x.Kept, y.Origin) }
			if !slices.ContainsFunc(beside, func(y draft.Item) bool { return !free(y) }) {
				t.Fatalf("%v, %v: %v stands there yet", x, rules, beside)
			}
		}
	}
	if made < 4000 || single < 1000 || open < 500 {
		t.Errorf("%d changes, %d of single rules, after which the texts stand %d times", made, single, open)
	}
}

package draft_test

import (
	"slices"
	"testing"

	"palantype/api"
	"palantype/draft"
)

// trace has the sources, the first and the last second, and the reporters.
func trace(sources []int, first, last int, reporters ...int) draft.Trace {
	return draft.Trace{Sources: sources, First: first, Last: last, Reporters: reporters}
}

// P3.3
func TestP3_3Traces(t *testing.T) {
	none := trace(nil, -1, -1)
	edited := []draft.Step{change(3, 1), change(4, 0, "that"), change(1, 2, "Member")}
	d := speech("a b c d e")
	again := []draft.Step{change(1, 2, "x"), change(1, 2, "y", "z"), change(3, 1), change(0, 0, "q")}
	for i := range d.Words {
		d.Words[i].Second = 10 * i
	}
	// Four words at one second, by reporters who do not rise.
	chorus := draft.Draft{Words: slices.Repeat(one("a", 7, 99).Words, 4)}
	chorus.Words[1].Reporter, chorus.Words[3].Reporter = 0, 50
	for _, x := range []struct {
		d      draft.Draft
		steps  []draft.Step
		traces []draft.Trace
		lost   []int
	}{
		// The example of the chapter; the document's third one says the same.
		{example(), edited, []draft.Trace{trace([]int{0}, 1, 1, 7), trace([]int{1, 2}, 1, 2, 7), trace([]int{4}, 4, 4, 7), none, trace([]int{5}, 5, 5, 7)}, []int{3}},
		{draft.Draft{}, nil, nil, nil},
		{draft.Draft{}, []draft.Step{change(0, 0, "x")}, []draft.Trace{none}, nil},
		{one("a", 36000, 99), nil, []draft.Trace{trace([]int{0}, 36000, 36000, 99)}, nil},
		{one("a", 0, 0), nil, []draft.Trace{trace([]int{0}, 0, 0, 0)}, nil},
		{one("a", 0, 0), []draft.Step{change(0, 1)}, nil, []int{0}},
		{one("a", 0, 0), []draft.Step{change(0, 1), undo(1)}, []draft.Trace{trace([]int{0}, 0, 0, 0)}, nil},
		{chorus, []draft.Step{change(0, 4, "x")}, []draft.Trace{trace([]int{0, 1, 2, 3}, 7, 7, 0, 50, 99)}, nil},
		// b and c become x; x and d become y z; e is lost; q has no sound.
		{d, again, []draft.Trace{none, trace([]int{0}, 0, 0, 1), trace([]int{1, 2, 3}, 10, 30, 1, 2), trace([]int{1, 2, 3}, 10, 30, 1, 2)}, []int{4}},
		{d, append(again[:4:4], undo(3)), []draft.Trace{none, trace([]int{0}, 0, 0, 1), trace([]int{1, 2, 3}, 10, 30, 1, 2), trace([]int{1, 2, 3}, 10, 30, 1, 2), trace([]int{4}, 40, 40, 1)}, nil},
		{d, append(again[:4:4], undo(2)), []draft.Trace{none, trace([]int{0}, 0, 0, 1), trace([]int{1, 2}, 10, 20, 1, 2), trace([]int{3}, 30, 30, 2)}, []int{4}},
		// Lost with what was put for it; one of two that were put is enough.
		{d, []draft.Step{change(0, 4, "x"), change(0, 1)}, []draft.Trace{trace([]int{4}, 40, 40, 1)}, []int{0, 1, 2, 3}},
		{d, []draft.Step{change(0, 4, "x", "y"), change(0, 1)}, []draft.Trace{trace([]int{0, 1, 2, 3}, 0, 30, 1, 2), trace([]int{4}, 40, 40, 1)}, nil},
		// What is put beside words comes from none of them.
		{one("a", 3, 4), []draft.Step{change(0, 0, "x"), change(2, 0, "y")}, []draft.Trace{none, trace([]int{0}, 3, 3, 4), none}, nil},
		// From what has no sources, and from words that are not side by side.
		{d, []draft.Step{change(5, 0, "x"), change(5, 1, "y")}, []draft.Trace{trace([]int{0}, 0, 0, 1), trace([]int{1}, 10, 10, 2), trace([]int{2}, 20, 20, 1), trace([]int{3}, 30, 30, 2), trace([]int{4}, 40, 40, 1), none}, nil},
		{d, []draft.Step{change(1, 3), change(0, 2, "x")}, []draft.Trace{trace([]int{0, 4}, 0, 40, 1)}, []int{1, 2, 3}},
		{d, []draft.Step{change(1, 3), change(0, 2, "x"), undo(1)}, []draft.Trace{trace([]int{0, 4}, 0, 40, 1), trace([]int{1}, 10, 10, 2), trace([]int{2}, 20, 20, 1), trace([]int{3}, 30, 30, 2)}, nil},
	} {
		l, lost, e := draft.Traces(x.d, x.steps)
		if !slices.EqualFunc(l, x.traces, sameTrace) || !slices.Equal(lost, x.lost) || e != api.OK {
			t.Errorf("Traces of %v: %v, %v, %v; not %v, %v", x.steps, l, lost, e, x.traces, x.lost)
		}
	}
}

// P3.3: each of 80 changes takes away all four words that the one before put,
// so there are 4 to the 80th ways from what is visible to the draft.
func TestP3_3TracesManyWays(t *testing.T) {
	d := speech("a b c d")
	steps := slices.Repeat([]draft.Step{change(0, 4, "w", "x", "y", "z")}, api.MaxSteps)
	compare(t, d, steps, answerOf(d, steps))
	// Crosswise: each takes away a half of two of them.
	for i := range steps {
		steps[i] = change(i%2*2, 2, "x", "y")
		if i%3 == 2 {
			steps[i] = change(1, 2, "x", "y")
		}
	}
	compare(t, d, steps, answerOf(d, steps))
}

// P3.6
func TestP3_6NoWordUnseen(t *testing.T) {
	d := dice(6)
	var kept, lost int
	for range 3000 {
		x := d.draft(8)
		steps := d.steps(x, d.roll(0, 30))
		traces, gone, e := draft.Traces(x, steps)
		_, live, _, f := draft.Play(x, steps)
		if e != api.OK || f != api.OK {
			t.Fatalf("%v, %v: %v, %v", x, steps, e, f)
		}
		for i := range x.Words {
			isSource := slices.ContainsFunc(traces, func(y draft.Trace) bool { return slices.Contains(y.Sources, i) })
			if isSource == slices.Contains(gone, i) {
				t.Fatalf("%v, %v: the word %d, with %v and %v", x, steps, i, traces, gone)
			}
		}
		takesOnly := func(number int) bool { return len(changesOf(steps)[number-1].Put) == 0 }
		if slices.ContainsFunc(live, takesOnly) {
			lost += len(gone)
			continue
		}
		if kept++; len(gone) != 0 {
			t.Fatalf("%v, %v: %v are lost", x, steps, gone)
		}
	}
	if kept < 300 || lost < 1000 {
		t.Errorf("%d drafts of which nothing may be lost; %d words lost of the others", kept, lost)
	}
}

// changesOf returns those of the steps that are changes.
func changesOf(steps []draft.Step) []draft.Step {
	return slices.DeleteFunc(slices.Clone(steps), func(x draft.Step) bool { return x.Undo != 0 })
}

// P3.11
func TestP3_11Sound(t *testing.T) {
	d := dice(11)
	silent, long := 0, 0
	for range 3000 {
		x := d.draft(10)
		steps := d.steps(x, d.roll(0, 30))
		traces, _, e := draft.Traces(x, steps)
		items, _, _, f := draft.Play(x, steps)
		if len(traces) != len(items) || e != api.OK || f != api.OK {
			t.Fatalf("%v, %v: %v, %v; %v, %v", x, steps, traces, e, items, f)
		}
		seconds := []int{}
		for _, w := range x.Words {
			seconds = append(seconds, w.Second)
		}
		last := 0
		for i, y := range traces {
			if len(y.Sources) == 0 {
				if silent++; y.First != -1 || y.Last != -1 || items[i].Origin != -1 {
					t.Fatalf("%v, %v: %v is without a source", x, steps, y)
				}
				continue
			}
			if y.First > y.Last || !slices.Contains(seconds, y.First) || !slices.Contains(seconds, y.Last) {
				t.Fatalf("%v, %v: %v", x, steps, y)
			}
			if y.First < y.Last {
				long++
			}
			if items[i].Origin == -1 {
				continue
			}
			if y.First < last || y.First != y.Last || y.First != x.Words[items[i].Origin].Second {
				t.Fatalf("%v, %v: %v is of the word %v, behind the second %d", x, steps, y, items[i], last)
			}
			last = y.First
		}
	}
	if silent < 2000 || long < 2000 {
		t.Errorf("%d traces without sound, %d of some seconds", silent, long)
	}
}

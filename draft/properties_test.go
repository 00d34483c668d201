package draft_test

import (
	"slices"
	"testing"

	"palantype/api"
	"palantype/draft"
)

// isDraft says whether the items are the words of the draft, as at first.
func isDraft(items []draft.Item, d draft.Draft) bool {
	return slices.EqualFunc(items, d.Words, func(x draft.Item, w draft.Word) bool {
		return x.Text == w.Text && d.Words[x.Origin] == w && x.Maker == 0
	}) && slices.IsSortedFunc(items, func(a, b draft.Item) int { return a.Origin - b.Origin })
}

// undoable returns what Undoable does, and holds it against what is live.
func undoable(t *testing.T, d draft.Draft, steps []draft.Step) []int {
	t.Helper()
	items, live, _, e := draft.Play(d, steps)
	list, f := draft.Undoable(d, steps)
	if e != api.OK || f != api.OK {
		t.Fatalf("%v, %v: %v, %v", d, steps, e, f)
	}
	if len(live) == 0 {
		if len(list) != 0 || !isDraft(items, d) {
			t.Fatalf("%v, %v: nothing is live, but %v can be undone; there is %v", d, steps, list, items)
		}
		return nil
	}
	if len(list) == 0 || list[len(list)-1] != live[len(live)-1] {
		t.Fatalf("%v, %v: %v are live, %v can be undone", d, steps, live, list)
	}
	for _, number := range live {
		_, _, _, e := draft.Play(d, append(steps[:len(steps):len(steps)], undo(number)))
		if (e == api.OK) != slices.Contains(list, number) {
			t.Fatalf("%v, %v: %v can be undone; undoing %d: %v", d, steps, list, number, e)
		}
	}
	return list
}

// P3.5: in an order that is thrown.
func TestP3_5DraftAgain(t *testing.T) {
	d := dice(50)
	undone, chosen := 0, 0
	for range 250 {
		x := d.draft(8)
		steps := d.steps(x, 40)
		for {
			list := undoable(t, x, steps)
			if len(list) == 0 {
				break
			}
			if len(list) > 1 {
				chosen++
			}
			steps = append(steps, undo(list[d.roll(0, len(list)-1)]))
			undone++
		}
	}
	if undone < 1500 || chosen < 1000 {
		t.Errorf("%d changes were undone, %d of them chosen", undone, chosen)
	}
}

// P3.5: in all orders that can be, and from the last one back.
func TestP3_5DraftAgainAllOrders(t *testing.T) {
	d := dice(51)
	ends := 0
	var try func(x draft.Draft, steps []draft.Step)
	try = func(x draft.Draft, steps []draft.Step) {
		list := undoable(t, x, steps)
		for _, number := range list {
			try(x, append(steps[:len(steps):len(steps)], undo(number)))
		}
		if len(list) == 0 {
			ends++
		}
	}
	for range 300 {
		x := d.draft(5)
		try(x, d.steps(x, 9))
	}
	if ends < 1500 {
		t.Errorf("%d orders", ends)
	}
	for range 300 {
		x := d.draft(10)
		steps := d.steps(x, 40)
		_, live, _, _ := draft.Play(x, steps)
		for _, number := range slices.Backward(live) {
			steps = append(steps, undo(number))
		}
		if items, live, _, e := draft.Play(x, steps); !isDraft(items, x) || len(live) != 0 || e != api.OK {
			t.Fatalf("%v, %v: %v, %v, %v", x, steps, items, live, e)
		}
	}
}

// P3.7
func TestP3_7Protected(t *testing.T) {
	d := dice(7)
	kept, refusedOf := 0, 0
	for range 3000 {
		x := d.draft(8)
		steps := d.steps(x, d.roll(0, 40))
		items, _, _, e := draft.Play(x, steps)
		if e != api.OK {
			t.Fatalf("%v, %v: %v", x, steps, e)
		}
		for _, word := range x.Kept {
			kept++
			at := slices.Index(items, draft.Item{Text: x.Words[word].Text, Origin: word})
			if at == -1 {
				t.Fatalf("%v, %v: the word %d is not in %v", x, steps, word, items)
			}
			from := max(at-d.roll(0, 3), 0)
			cut := min(at-from+d.roll(1, 2), 4, len(items)-from)
			if _, _, step, e := draft.Play(x, append(steps[:len(steps):len(steps)], change(from, cut, "x"))); step != len(steps) || e != api.ErrFail {
				t.Fatalf("%v, %v: %d can be taken away from %d on: %d, %v", x, steps, cut, from, step, e)
			}
			refusedOf++
		}
	}
	if kept < 1500 || refusedOf < 1500 {
		t.Errorf("%d protected words", kept)
	}
}

// P3.8: two changes with a visible item in between.
func TestP3_8Apart(t *testing.T) {
	d := dice(8)
	tried, hidden := 0, 0
	for range 20000 {
		x := d.draft(12)
		steps := d.steps(x, d.roll(0, 12))
		p := pageAfter(x, steps)
		many := len(p.shown())
		near := change(d.roll(0, many), d.roll(0, 2), d.texts(0, 2)...)
		far := change(d.roll(0, many), d.roll(0, 2), d.texts(0, 2)...)
		if near.At+near.Cut >= far.At || !p.can(near) || !p.can(far) {
			continue
		}
		moved := far
		moved.At += len(near.Put) - near.Cut
		a, _, _, e := draft.Play(x, append(steps[:len(steps):len(steps)], near, moved))
		b, _, _, f := draft.Play(x, append(steps[:len(steps):len(steps)], far, near))
		if e != api.OK || f != api.OK || read(a) != read(b) {
			t.Fatalf("%v, %v: %v and %v: %q, %v; %q, %v", x, steps, near, far, read(a), e, read(b), f)
		}
		if tried++; len(p.things) > many {
			hidden++
		}
	}
	if tried < 2000 || hidden < 1500 {
		t.Errorf("%d pairs of changes, %d where some items are hidden", tried, hidden)
	}
}

// later returns the steps with all numbers from this one on one greater.
func later(steps []draft.Step, number int) []draft.Step {
	steps = slices.Clone(steps)
	for i := range steps {
		if steps[i].Undo >= number {
			steps[i].Undo++
		}
	}
	return steps
}

// P3.9: a change that is undone at once can be left out.
func TestP3_9UndoneAtOnce(t *testing.T) {
	d := dice(9)
	tried, after := 0, 0
	for range 4000 {
		x := d.draft(8)
		steps := d.steps(x, 30)
		place := d.roll(0, len(steps))
		p := pageAfter(x, steps[:place])
		extra := change(d.roll(0, len(p.shown())), d.roll(0, 3), d.texts(0, 3)...)
		if !p.can(extra) {
			continue
		}
		number := len(p.done) + 1
		longer := slices.Concat(steps[:place], []draft.Step{extra, undo(number)}, later(steps[place:], number))
		want := answerOf(x, steps)
		for _, l := range [][]int{want.live, want.undoable} {
			for i := range l {
				if l[i] >= number {
					l[i]++
				}
			}
		}
		for i, y := range want.items {
			if y.Maker >= number {
				want.items[i].Maker++
			}
		}
		compare(t, x, longer, want)
		tried++
		after += len(steps) - place
	}
	if tried < 1500 || after < 10000 {
		t.Errorf("%d changes, with %d steps after them", tried, after)
	}
}

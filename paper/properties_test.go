package paper_test

import (
	"slices"
	"testing"

	"palantype/api"
	"palantype/paper"
)

// written returns what Text does of a choice.
func written(t *testing.T, m paper.Motion, choice []int) ([]string, []paper.Origin) {
	t.Helper()
	w, o, e := paper.Text(m, choice)
	if e != api.OK || len(w) != len(o) {
		t.Fatalf("Text of %v by %v: %v, %v, %v", m, choice, w, o, e)
	}
	return w, o
}

// largest returns what Largest does of a valid motion, and called what Order
// does.
func largest(t *testing.T, m paper.Motion) []int {
	t.Helper()
	l, e := paper.Largest(m)
	if e != api.OK {
		t.Fatalf("Largest of %v: %v, %v", m, l, e)
	}
	return l
}

func called(t *testing.T, m paper.Motion) []int {
	t.Helper()
	l, e := paper.Order(m)
	if e != api.OK {
		t.Fatalf("Order of %v: %v, %v", m, l, e)
	}
	return l
}

// without returns a copy of the list without the element.
func without[T comparable](l []T, element T) []T {
	return slices.DeleteFunc(slices.Clone(l), func(x T) bool { return x == element })
}

// mixed returns the motion with its papers in another order.
func (d *dice) mixed(m paper.Motion) paper.Motion {
	m.Papers = slices.Clone(m.Papers)
	mix(d, m.Papers)
	return m
}

// holdSame holds that both motions make the same.
func holdSame(t *testing.T, m, other paper.Motion, choice []int) {
	t.Helper()
	w, o := written(t, m, choice)
	holdText(t, other, choice, w, o)
	l, e := paper.Clashes(m)
	if e != api.OK {
		t.Fatalf("Clashes of %v: %v, %v", m, l, e)
	}
	holdClashes(t, other, l...)
	holdOrder(t, other, called(t, m)...)
	holdLargest(t, other, largest(t, m)...)
}

// P6.6: papers are dealt out.
func TestP6_6AnyOrder(t *testing.T) {
	d := dice(6)
	papers, chosen, together := 0, 0, 0
	for range 1000 {
		m := d.motion(7)
		choice := d.choice(m)
		holdSame(t, m, d.mixed(m), choice)
		papers += len(m.Papers)
		chosen += len(choice)
		places := map[[3]int]int{}
		for _, p := range m.Papers {
			places[[3]int{p.Of, p.From, p.To}]++
		}
		if len(places) < len(m.Papers) {
			together++
		}
	}
	if papers < 3000 || chosen < 1500 || together < 200 {
		t.Errorf("%d papers, %d chosen, %d times two at the same places", papers, chosen, together)
	}
}

// P6.6: errors too do not depend on the order of the list.
func TestP6_6AnyOrderOfFaults(t *testing.T) {
	d := dice(66)
	seen := map[api.Errno]int{}
	for range 3000 {
		m := d.motion(6)
		for i := range m.Papers {
			p := &m.Papers[i]
			switch d.roll(0, 12) {
			case 0:
				p.Number = d.roll(0, 20)
			case 1:
				p.Of = d.roll(0, 20)
			case 2:
				p.Of = m.Papers[d.roll(0, len(m.Papers)-1)].Number
			case 3:
				p.From = d.roll(-1, 7)
			}
		}
		e := faultOf(m)
		holdFault(t, m, e)
		holdFault(t, d.mixed(m), e)
		seen[e]++
	}
	for _, e := range []api.Errno{api.OK, api.ErrTwice, api.ErrNone, api.ErrState, api.ErrArg} {
		if seen[e] < 50 {
			t.Errorf("%v was returned %d times", e, seen[e])
		}
	}
}

// P6.7
func TestP6_7EachWord(t *testing.T) {
	d := dice(7)
	all, brought, missing := 0, 0, 0
	for range 4000 {
		m := d.motion(api.MaxPapers)
		choice := d.choice(m)
		w, o := written(t, m, choice)
		next := map[int]int{} // by Number, the least index that may come
		for i, from := range o {
			own := wordsOf(m, from.Number)
			if from.Number != 0 && !slices.Contains(choice, from.Number) || from.Index < 0 || from.Index >= len(own) || own[from.Index] != w[i] {
				t.Fatalf("%v by %v: %q is from %v", m, choice, w[i], from)
			}
			if from.Index < next[from.Number] {
				t.Fatalf("%v by %v: %v is behind a later word, or there twice", m, choice, from)
			}
			next[from.Number] = from.Index + 1
			if from.Number != 0 {
				brought++
			}
		}
		for i := range m.Words {
			replaced := slices.ContainsFunc(chosen(m, choice), func(p paper.Paper) bool { return p.Of == 0 && p.From <= i && i < p.To })
			if slices.Contains(o, paper.Origin{Index: i}) == replaced {
				t.Fatalf("%v by %v: %v, the word %d of the motion", m, choice, o, i)
			}
			if replaced {
				missing++
			}
		}
		all += len(w)
	}
	if all < 20000 || brought < 5000 || missing < 2000 {
		t.Errorf("%d words, %d of papers, %d of motions are missing", all, brought, missing)
	}
}

// P6.8: nothing is chosen.
func TestP6_8Nothing(t *testing.T) {
	d := dice(8)
	for range 1000 {
		m := d.motion(api.MaxPapers)
		for _, nothing := range [][]int{nil, {}} {
			w, o := written(t, m, nothing)
			if !slices.Equal(w, m.Words) {
				t.Fatalf("%v: %v", m, w)
			}
			for i, from := range o {
				if from.Number != 0 || from.Index != i {
					t.Fatalf("%v: %v", m, o)
				}
			}
		}
	}
}

// P6.8: a paper that puts nothing in the place of nothing.
func TestP6_8PutsNothing(t *testing.T) {
	d := dice(88)
	inMotion, inPaper, beside := 0, 0, 0
	for range 6000 {
		m := d.motion(api.MaxPapers - 1)
		choice := d.choice(m)
		p := amends(d.number(m, api.MaxPaper), 0, 0, 0, "")
		if len(choice) > 0 && d.one(2) {
			p.Of = choice[d.roll(0, len(choice)-1)]
		}
		p.From = d.roll(0, len(wordsOf(m, p.Of)))
		p.To = p.From
		more := m
		more.Papers = slices.Insert(slices.Clone(m.Papers), d.roll(0, len(m.Papers)), p)
		with := append(slices.Clone(choice), p.Number)
		slices.Sort(with)
		w, o := written(t, m, choice)
		holdText(t, more, choice, w, o)
		if faultOfChoice(more, with) != api.OK {
			holdNoText(t, more, with, api.ErrFail)
			continue
		}
		holdText(t, more, with, w, o)
		if p.Of == 0 {
			inMotion++
		} else {
			inPaper++
		}
		if slices.ContainsFunc(chosen(m, choice), func(x paper.Paper) bool { return x.Of == p.Of && (x.From == p.From || x.To == p.From) }) {
			beside++
		}
	}
	if inMotion < 2000 || inPaper < 1000 || beside < 1000 {
		t.Errorf("%d amend the motion, %d a paper, %d beside another one", inMotion, inPaper, beside)
	}
}

// leaf returns a chosen paper that no chosen one amends, if there is one.
func (d *dice) leaf(m paper.Motion, choice []int) (paper.Paper, bool) {
	papers := chosen(m, choice)
	leaves := slices.DeleteFunc(slices.Clone(papers), func(p paper.Paper) bool {
		return slices.ContainsFunc(papers, func(q paper.Paper) bool { return q.Of == p.Number })
	})
	if len(leaves) == 0 {
		return paper.Paper{}, false
	}
	return leaves[d.roll(0, len(leaves)-1)], true
}

// holdOneLess holds that the text of the choice is what it is without the leaf,
// with the words of this one in the place of those that it replaced.
func holdOneLess(t *testing.T, m paper.Motion, choice []int, p paper.Paper) {
	t.Helper()
	less := without(choice, p.Number)
	w, o := written(t, m, choice)
	before, from := written(t, m, less)
	own := func(x paper.Origin) bool { return x.Number == p.Number }
	back := func(x paper.Origin) bool { return x.Number == p.Of && p.From <= x.Index && x.Index < p.To }
	count := 0
	for i, x := range from {
		if back(x) {
			count++
			if i >= len(before) || before[i] != wordsOf(m, p.Of)[x.Index] {
				t.Fatalf("%v by %v: %v is not back", m, less, x)
			}
		}
	}
	if count != p.To-p.From {
		t.Fatalf("%v: with %d, %v; without it, %v", m, p.Number, o, from)
	}
	if !slices.Equal(slices.DeleteFunc(slices.Clone(o), own), slices.DeleteFunc(slices.Clone(from), back)) {
		t.Fatalf("%v: with %d, %v; without it, %v", m, p.Number, o, from)
	}
	if count == 0 || len(p.Words) == 0 {
		return
	}
	at, first := slices.IndexFunc(o, own), slices.IndexFunc(from, back)
	if at != first || !slices.Equal(slices.Replace(slices.Clone(before), at, at+count, p.Words...), w) {
		t.Fatalf("%v: with %d, %v; without it, %v", m, p.Number, w, before)
	}
}

// P6.9: one paper is taken out.
func TestP6_9OneByOne(t *testing.T) {
	d := dice(9)
	replaces, puts, deep := 0, 0, 0
	for range 5000 {
		m := d.motion(api.MaxPapers)
		choice := d.choice(m)
		p, found := d.leaf(m, choice)
		if !found {
			continue
		}
		holdOneLess(t, m, choice, p)
		if p.From < p.To {
			replaces++
		} else {
			puts++
		}
		if p.Of != 0 {
			deep++
		}
	}
	if replaces < 800 || puts < 800 || deep < 800 {
		t.Errorf("%d replace words, %d do not; %d amend papers", replaces, puts, deep)
	}
}

// P6.9: all leaves of all choices of small motions.
func TestP6_9SmallMotions(t *testing.T) {
	count := 0
	for m := range smallMotions {
		for _, choice := range allChoices(m) {
			for _, p := range chosen(m, choice) {
				if !slices.ContainsFunc(chosen(m, choice), func(q paper.Paper) bool { return q.Of == p.Number }) {
					holdOneLess(t, m, choice, p)
					count++
				}
			}
		}
	}
	if count < 4000 {
		t.Errorf("%d were taken out", count)
	}
}

// P6.10: the largest choice is one, and no other one has more papers.
func TestP6_10Largest(t *testing.T) {
	d := dice(10)
	compared := 0
	for range 600 {
		m := d.motion(8)
		l := largest(t, m)
		if _, _, e := paper.Text(m, l); e != api.OK {
			t.Fatalf("Largest of %v: %v, by which Text returns %v", m, l, e)
		}
		for _, set := range allSets(m) {
			if _, _, e := paper.Text(m, set); e == api.OK && (len(set) > len(l) || len(set) == len(l) && slices.Compare(set, l) < 0) {
				t.Fatalf("Largest of %v: %v, but: %v", m, l, set)
			}
			compared++
		}
	}
	if compared < 20000 {
		t.Errorf("%d lists were compared", compared)
	}
}

// line returns the paper, what it amends, and so on.
func line(m paper.Motion, p paper.Paper) []paper.Paper {
	l := []paper.Paper{p}
	for p.Of != 0 {
		p, _ = find(m, p.Of)
		l = append(l, p)
	}
	return l
}

// holdTogether holds of all pairs of papers that both are in some choice just if
// neither they nor what they amend, and so on, clash. It returns how many pairs
// are in some choice, and how many are not though they do not clash themselves.
func holdTogether(t *testing.T, m paper.Motion) (together, byOthers int) {
	t.Helper()
	pairs, _ := paper.Clashes(m)
	var choices [][]int
	for _, set := range allSets(m) {
		if _, _, e := paper.Text(m, set); e == api.OK {
			choices = append(choices, set)
		}
	}
	for _, p := range m.Papers {
		for _, q := range m.Papers {
			if p.Number >= q.Number {
				continue
			}
			clashes := false
			for _, a := range line(m, p) {
				for _, b := range line(m, q) {
					clashes = clashes || slices.Contains(pairs, pair(a.Number, b.Number)) || slices.Contains(pairs, pair(b.Number, a.Number))
				}
			}
			both := slices.ContainsFunc(choices, func(l []int) bool { return slices.Contains(l, p.Number) && slices.Contains(l, q.Number) })
			if both == clashes {
				t.Fatalf("%v: %d and %d are together: %v", m, p.Number, q.Number, both)
			}
			if both {
				together++
			} else if !slices.Contains(pairs, pair(p.Number, q.Number)) {
				byOthers++
			}
		}
	}
	return together, byOthers
}

// P6.10: which papers can be together.
func TestP6_10Together(t *testing.T) {
	d := dice(110)
	all, others := 0, 0
	hold := func(m paper.Motion) {
		together, byOthers := holdTogether(t, m)
		all, others = all+together, others+byOthers
	}
	for m := range smallMotions {
		hold(m)
	}
	for range 600 {
		hold(d.motion(7))
	}
	// What amends one of two papers that clash cannot be with the other one, nor
	// with what amends that.
	hold(motion("a b", amends(1, 0, 0, 2, "c d"), amends(2, 1, 0, 0, "e"), amends(3, 0, 1, 2, "f"), amends(4, 3, 0, 1, "g"), amends(5, 4, 0, 0, "h")))
	if all < 3000 || others < 200 {
		t.Errorf("%d pairs are together, %d are not by what they amend", all, others)
	}
}

// P6.11
func TestP6_11Called(t *testing.T) {
	d := dice(11)
	behind := 0
	for range 3000 {
		m := d.motion(api.MaxPapers)
		l := called(t, m)
		if sorted := slices.Sorted(slices.Values(l)); !slices.Equal(sorted, numbersOf(m)) {
			t.Fatalf("Order of %v: %v", m, l)
		}
		for _, p := range m.Papers {
			if p.Of == 0 {
				continue
			}
			if slices.Index(l, p.Number) > slices.Index(l, p.Of) {
				t.Fatalf("Order of %v: %v, where %d amends %d", m, l, p.Number, p.Of)
			}
			behind++
		}
	}
	if behind < 3000 {
		t.Errorf("%d papers amend others", behind)
	}
}

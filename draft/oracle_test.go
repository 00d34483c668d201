package draft_test

import (
	"slices"
	"strings"

	"palantype/draft"
)

// This file says again what the chapter defines, as literally and slowly as
// can be; the tests hold the package against it.

// dice is a row of numbers that look thrown, and are the same in each run.
type dice uint64

// roll returns a number from lo to hi.
func (d *dice) roll(lo, hi int) int {
	*d = *d*6364136223846793005 + 1442695040888963407
	return lo + int(uint64(*d)>>33)%(hi-lo+1)
}

// example is the draft of the chapter's examples.
func example() draft.Draft {
	d := draft.Draft{Kept: []int{5}}
	for i, text := range strings.Fields("the honourable member er says no") {
		d.Words = append(d.Words, draft.Word{Text: text, Second: max(i, 1), Reporter: 7})
	}
	return d
}

// speech has the words of the text, with a word each second, by two reporters
// in turn; kept are protected.
func speech(text string, kept ...int) draft.Draft {
	d := draft.Draft{Kept: kept}
	for i, w := range strings.Fields(text) {
		d.Words = append(d.Words, draft.Word{Text: w, Second: i, Reporter: 1 + i%2})
	}
	return d
}

func change(at, cut int, put ...string) draft.Step {
	return draft.Step{At: at, Cut: cut, Put: put}
}

func undo(number int) draft.Step { return draft.Step{Undo: number} }

func rule(find, put string) draft.Rule {
	return draft.Rule{Find: strings.Fields(find), Put: strings.Fields(put)}
}

// read returns the texts of the items, with a blank between two of them.
func read(l []draft.Item) string {
	var texts []string
	for _, x := range l {
		texts = append(texts, x.Text)
	}
	return strings.Join(texts, " ")
}

// thing is an item of a page. None is ever removed: it may have left.
type thing struct {
	draft.Item
	left    bool
	taker   int
	sources [60]bool
}

func (x *thing) visible() bool { return !x.left && x.taker == 0 }

// page is a sheet that is edited.
type page struct {
	d      draft.Draft
	things []*thing
	done   []draft.Step // the change with the number n at n-1
	undone []bool
}

func pageOf(d draft.Draft) *page {
	p := &page{d: d}
	for i, w := range d.Words {
		x := &thing{Item: draft.Item{Text: w.Text, Origin: i}}
		x.sources[i] = true
		p.things = append(p.things, x)
	}
	return p
}

// shown returns those that are visible, in order.
func (p *page) shown() []*thing {
	var l []*thing
	for _, x := range p.things {
		if x.visible() {
			l = append(l, x)
		}
	}
	return l
}

func (p *page) protected(x *thing) bool { return slices.Contains(p.d.Kept, x.Origin) }

func isText(s string) bool {
	for i := range len(s) {
		if s[i] < 33 || s[i] > 126 {
			return false
		}
	}
	return 1 <= len(s) && len(s) <= 32
}

func (p *page) canChange(x draft.Step) bool {
	shown := p.shown()
	if x.At < 0 || x.At > len(shown) || x.Cut < 0 || x.Cut > 4 || x.At+x.Cut > len(shown) || len(x.Put) > 4 || x.Cut == 0 && len(x.Put) == 0 {
		return false
	}
	for _, text := range x.Put {
		if !isText(text) {
			return false
		}
	}
	return !slices.ContainsFunc(shown[x.At:x.At+x.Cut], p.protected)
}

func (p *page) change(x draft.Step) {
	p.done, p.undone = append(p.done, x), append(p.undone, false)
	shown := p.shown()
	var sources [60]bool
	for _, y := range shown[x.At : x.At+x.Cut] {
		y.taker = len(p.done)
		for i, is := range y.sources {
			sources[i] = sources[i] || is
		}
	}
	place := 0
	if x.Cut > 0 {
		place = slices.Index(p.things, shown[x.At])
	} else if x.At > 0 {
		place = slices.Index(p.things, shown[x.At-1]) + 1
	}
	for i, text := range x.Put {
		p.things = slices.Insert(p.things, place+i, &thing{Item: draft.Item{Text: text, Origin: -1, Maker: len(p.done)}, sources: sources})
	}
}

func (p *page) live(number int) bool {
	return 1 <= number && number <= len(p.done) && !p.undone[number-1]
}

func (p *page) canUndo(number int) bool {
	for _, x := range p.things {
		if x.Maker == number && !x.visible() {
			return false
		}
	}
	return p.live(number)
}

func (p *page) undo(number int) {
	p.undone[number-1] = true
	for _, x := range p.things {
		if x.Maker == number {
			x.left = true
		}
		if x.taker == number {
			x.taker = 0
		}
	}
}

// can says whether the step can be; take takes it.
func (p *page) can(x draft.Step) bool {
	if x.Undo != 0 {
		return p.canUndo(x.Undo)
	}
	return p.canChange(x)
}

func (p *page) take(x draft.Step) {
	if x.Undo != 0 {
		p.undo(x.Undo)
	} else {
		p.change(x)
	}
}

// pageAfter returns the page after steps, all of which can be taken.
func pageAfter(d draft.Draft, steps []draft.Step) *page {
	p := pageOf(d)
	for _, x := range steps {
		p.take(x)
	}
	return p
}

// answer is what is to be said after steps; or, if fails is not -1, the step
// that cannot be.
type answer struct {
	fails          int
	items          []draft.Item
	live, undoable []int
	traces         []draft.Trace
	lost           []int
}

// answerOf returns what is to be said of a valid draft, after at most 80 steps.
func answerOf(d draft.Draft, steps []draft.Step) answer {
	p := pageOf(d)
	for i, x := range steps {
		if !p.can(x) {
			return answer{fails: i}
		}
		p.take(x)
	}
	return p.answer()
}

func (p *page) answer() answer {
	a := answer{fails: -1}
	found := [60]bool{}
	for _, x := range p.shown() {
		a.items = append(a.items, x.Item)
		a.traces = append(a.traces, traceOf(p.d, x.sources))
		for i, is := range x.sources {
			found[i] = found[i] || is
		}
	}
	for number := 1; number <= len(p.done); number++ {
		if p.live(number) {
			a.live = append(a.live, number)
		}
		if p.canUndo(number) {
			a.undoable = append(a.undoable, number)
		}
	}
	for i := range p.d.Words {
		if !found[i] {
			a.lost = append(a.lost, i)
		}
	}
	return a
}

func traceOf(d draft.Draft, sources [60]bool) draft.Trace {
	t := draft.Trace{First: -1, Last: -1}
	for i, w := range d.Words {
		if !sources[i] {
			continue
		}
		if t.Sources == nil {
			t.First = w.Second
		}
		t.Last = w.Second
		t.Sources = append(t.Sources, i)
	}
	for reporter := range 100 {
		if slices.ContainsFunc(t.Sources, func(i int) bool { return d.Words[i].Reporter == reporter }) {
			t.Reporters = append(t.Reporters, reporter)
		}
	}
	return t
}

// stylesOf returns the changes that the style makes of the draft, but no more
// than 81.
func stylesOf(d draft.Draft, rules []draft.Rule) []draft.Step {
	p := pageOf(d)
	for _, r := range rules {
		for at := 0; at < len(p.shown()); {
			if !p.found(at, r.Find) {
				at++
				continue
			}
			if len(p.done) == 81 {
				return p.done
			}
			p.change(change(at, len(r.Find), r.Put...))
			at += len(r.Put)
		}
	}
	return p.done
}

// found says whether the texts are visible at that number, none of them of a
// protected word.
func (p *page) found(at int, texts []string) bool {
	for i, text := range texts {
		shown := p.shown()
		if at+i >= len(shown) || shown[at+i].Text != text || p.protected(shown[at+i]) {
			return false
		}
	}
	return true
}

// draft throws a draft of so many words at most, of few texts.
func (d *dice) draft(words int) draft.Draft {
	var x draft.Draft
	second := d.roll(0, 3)
	for i := range d.roll(0, words) {
		x.Words = append(x.Words, draft.Word{Text: d.text(), Second: second, Reporter: d.roll(0, 3)})
		second += d.roll(0, 2)
		if d.roll(1, 6) == 1 {
			x.Kept = append(x.Kept, i)
		}
	}
	return x
}

func (d *dice) text() string { return string(rune('a' + d.roll(0, 3))) }

func (d *dice) texts(lo, hi int) []string {
	var l []string
	for range d.roll(lo, hi) {
		l = append(l, d.text())
	}
	return l
}

// step throws a step, which the page may allow or not.
func (d *dice) step(p *page) draft.Step {
	if d.roll(1, 3) == 1 {
		return undo(d.roll(1, len(p.done)+1))
	}
	return change(d.roll(0, len(p.shown())), d.roll(0, 3), d.texts(0, 3)...)
}

// steps throws so many steps at most, all of which can be taken.
func (d *dice) steps(x draft.Draft, most int) []draft.Step {
	p := pageOf(x)
	var l []draft.Step
	for range most {
		if s := d.step(p); p.can(s) {
			p.take(s)
			l = append(l, s)
		}
	}
	return l
}

// rules throws a style of so many rules at most.
func (d *dice) rules(most int) []draft.Rule {
	var l []draft.Rule
	for range d.roll(0, most) {
		l = append(l, draft.Rule{Find: d.texts(1, d.roll(1, 3)), Put: d.texts(0, 3)})
	}
	return l
}

package paper_test

import (
	"math"
	"reflect"
	"slices"
	"strings"
	"testing"

	"palantype/api"
	"palantype/paper"
)

// This file tests what DOC.md promises of each layer, for this one.

// input is what the calls are given.
type input struct {
	M         paper.Motion
	Choice    []int
	Questions []paper.Question
	Replies   []paper.Reply
	Day       int
}

// output is what all calls return for it; Codes has their errors, by order.
type output struct {
	Words   []string
	Origins []paper.Origin
	Clashes []paper.Pair
	Order   []int
	Largest []int
	States  []uint8
	Codes   [6]api.Errno
}

func callAll(x input) (y output) {
	y.Codes[0] = paper.CheckMotion(x.M)
	y.Words, y.Origins, y.Codes[1] = paper.Text(x.M, x.Choice)
	y.Clashes, y.Codes[2] = paper.Clashes(x.M)
	y.Order, y.Codes[3] = paper.Order(x.M)
	y.Largest, y.Codes[4] = paper.Largest(x.M)
	y.States, y.Codes[5] = paper.Standing(x.Questions, x.Replies, x.Day)
	return y
}

// list returns a copy with memory of its own; without elements it is nil, or
// as empty says.
func list[T any](l []T, empty bool) []T {
	if empty {
		return append([]T{}, l...)
	}
	return append([]T(nil), l...)
}

// copied returns a copy that shares no memory; lists of no elements are nil, or
// as empty says.
func copied(x input, empty bool) input {
	x.M.Words, x.M.Papers = list(x.M.Words, empty), list(x.M.Papers, empty)
	for i := range x.M.Papers {
		x.M.Papers[i].Words = list(x.M.Papers[i].Words, empty)
	}
	x.Choice, x.Questions, x.Replies = list(x.Choice, empty), list(x.Questions, empty), list(x.Replies, empty)
	return x
}

// settled returns a copy of the output; lists of no elements are nil.
func settled(y output) output {
	y.Words, y.Origins, y.Clashes = list(y.Words, false), list(y.Origins, false), list(y.Clashes, false)
	y.Order, y.Largest, y.States = list(y.Order, false), list(y.Largest, false), list(y.States, false)
	return y
}

// fill writes the element into all memory of the list, also behind its end.
func fill[T any](l []T, element T) {
	l = l[:cap(l)]
	for i := range l {
		l[i] = element
	}
}

// scribble writes into all memory of the output.
func scribble(y output) {
	fill(y.Words, "scribbled")
	fill(y.Origins, paper.Origin{Number: 77, Index: 77})
	fill(y.Clashes, pair(77, 77))
	fill(y.Order, 77)
	fill(y.Largest, 78)
	fill(y.States, 79)
}

// strange throws a number that a caller may give by mistake, or any small one.
func (d *dice) strange() int {
	l := []int{math.MinInt, math.MinInt + 1, -1 << 32, -1, 0, 1, api.MaxListed, api.MaxListed + 1, api.MaxPaper, api.MaxPaper + 1, api.MaxDate, api.MaxDate + 1, 1 << 32, math.MaxInt - 1, math.MaxInt}
	if d.one(2) {
		return d.roll(-2, 20)
	}
	return l[d.roll(0, len(l)-1)]
}

// strangeWord throws a text, which mostly is no word.
func (d *dice) strangeWord() string {
	l := []string{"", " ", "a b", "\x7f", "\x1f", "é", "\xff\xfe", strings.Repeat("x", 21), strings.Repeat("x", 20), "!", "~"}
	return l[d.roll(0, len(l)-1)]
}

// numbers, numbersOfQuestions and words return where those of the input stand.
func (x *input) numbers() []*int {
	var l []*int
	for i := range x.M.Papers {
		p := &x.M.Papers[i]
		l = append(l, &p.Number, &p.Of, &p.From, &p.To)
	}
	for i := range x.Choice {
		l = append(l, &x.Choice[i])
	}
	return l
}

func (x *input) numbersOfQuestions() []*int {
	l := []*int{&x.Day}
	for i := range x.Questions {
		q := &x.Questions[i]
		l = append(l, &q.Number, &q.Asked, &q.Within)
	}
	for i := range x.Replies {
		l = append(l, &x.Replies[i].To, &x.Replies[i].Day)
	}
	return l
}

func (x *input) words() []*string {
	var l []*string
	for i := range x.M.Words {
		l = append(l, &x.M.Words[i])
	}
	for _, p := range x.M.Papers {
		for i := range p.Words {
			l = append(l, &p.Words[i])
		}
	}
	return l
}

// valid throws an input that is valid.
func (d *dice) valid() input {
	var x input
	x.M = d.motion(7)
	x.Choice = d.choice(x.M)
	x.Questions, x.Replies = d.questions(30)
	x.Day = d.roll(0, 40)
	return x
}

// input throws an input that is valid, or has something strange somewhere, or
// is strange everywhere, or is large.
func (d *dice) input() input {
	x := copied(d.valid(), false)
	some := func(l []*int) {
		if len(l) > 0 {
			*l[d.roll(0, len(l)-1)] = d.strange()
		}
	}
	switch d.roll(0, 11) {
	case 0, 1, 2:
		some(x.numbers())
		some(x.numbersOfQuestions())
	case 3:
		if l := x.words(); len(l) > 0 {
			*l[d.roll(0, len(l)-1)] = d.strangeWord()
		}
	case 4, 7:
		x.Choice = slices.DeleteFunc(numbersOf(x.M), func(int) bool { return d.one(3) })
	case 8:
		for i := range x.M.Papers {
			x.M.Papers[i].Of = x.M.Papers[d.roll(0, i)].Number
		}
	case 5:
		for _, n := range slices.Concat(x.numbers(), x.numbersOfQuestions()) {
			*n = d.strange()
		}
		for _, s := range x.words() {
			*s = d.strangeWord()
		}
	case 6:
		x.M.Words = slices.Repeat(append(x.M.Words, "a"), d.roll(1, 20))
		x.M.Papers = slices.Repeat(append(x.M.Papers, amends(1, 0, 0, 0, "a")), d.roll(1, 4))
		x.Choice = slices.Repeat(x.Choice, d.roll(1, 300))
		x.Questions = slices.Repeat(append(x.Questions, question(5, 5, 5)), d.roll(1, 12))
		x.Replies = slices.Repeat(append(x.Replies, reply(5, 5)), d.roll(1, 24))
	}
	return x
}

// want says the error of each call, as the chapter has it.
func (x input) want() [6]api.Errno {
	e := faultOf(x.M)
	text := e
	if e == api.OK {
		text = faultOfChoice(x.M, x.Choice)
	}
	return [6]api.Errno{e, text, e, e, e, faultOfQuestions(x.Questions, x.Replies, x.Day)}
}

// P1, with R1 and R2: each call returns; it returns the first error, and beside
// it nothing else.
func TestP1AllReturn(t *testing.T) {
	d := dice(1000)
	seen := map[api.Errno]int{}
	for range 12000 {
		x := d.input()
		y := callAll(x)
		if want := x.want(); y.Codes != want {
			t.Fatalf("%v: %v, not %v", x, y.Codes, want)
		}
		for _, e := range y.Codes {
			seen[e]++
		}
		zero := [...]bool{true, len(y.Words) == 0 && len(y.Origins) == 0, len(y.Clashes) == 0, len(y.Order) == 0, len(y.Largest) == 0, len(y.States) == 0}
		for i, z := range zero {
			if y.Codes[i] != api.OK && !z {
				t.Fatalf("%v: the call %d returns %v, and more: %v", x, i, y.Codes[i], y)
			}
		}
		if y.Codes[3] == api.OK && len(y.Order) != len(x.M.Papers) || y.Codes[5] == api.OK && len(y.States) != len(x.Questions) {
			t.Fatalf("%v: %v", x, y)
		}
	}
	for _, e := range []api.Errno{api.OK, api.ErrArg, api.ErrRange, api.ErrLimit, api.ErrForm, api.ErrTwice, api.ErrNone, api.ErrState, api.ErrFail, api.ErrGap} {
		if seen[e] < 100 {
			t.Errorf("%v was returned %d times", e, seen[e])
		}
	}
}

// R3 and R4: lists without elements are all the same, no call writes into an
// argument, what is returned is new memory, and nothing is remembered.
func TestR3R4Memory(t *testing.T) {
	d := dice(1001)
	var last input
	for range 3000 {
		x := d.input()
		kept := copied(x, false)
		first := callAll(x)
		want := settled(first)
		if !reflect.DeepEqual(copied(x, false), kept) {
			t.Fatalf("%v has become %v", kept, x)
		}
		callAll(last)
		if y := settled(callAll(copied(x, true))); !reflect.DeepEqual(y, want) {
			t.Fatalf("%v: %v, and then %v", x, want, y)
		}
		scribble(first)
		if !reflect.DeepEqual(copied(x, false), kept) {
			t.Fatalf("what is returned for %v has memory of it", kept)
		}
		if y := settled(callAll(x)); !reflect.DeepEqual(y, want) {
			t.Fatalf("%v: %v, and then %v", x, want, y)
		}
		last = x
	}
}

// R4: no call writes behind the end of an argument.
func TestR4BehindTheEnd(t *testing.T) {
	d := dice(1002)
	for range 500 {
		x := d.valid()
		var ends [][]string
		longer := func(l []string) []string {
			l = append(slices.Clone(l), "seven")
			ends = append(ends, l)
			return l[:len(l)-1]
		}
		x.M.Words = longer(x.M.Words)
		for i := range x.M.Papers {
			x.M.Papers[i].Words = longer(x.M.Papers[i].Words)
		}
		papers, choice := append(slices.Clone(x.M.Papers), amends(7, 7, 7, 7, "")), append(slices.Clone(x.Choice), 7)
		questions, replies := append(slices.Clone(x.Questions), question(7, 7, 7)), append(slices.Clone(x.Replies), reply(7, 7))
		x.M.Papers, x.Choice = papers[:len(papers)-1], choice[:len(choice)-1]
		x.Questions, x.Replies = questions[:len(questions)-1], replies[:len(replies)-1]
		callAll(x)
		if papers[len(papers)-1].Of != 7 || choice[len(choice)-1] != 7 || questions[len(questions)-1] != question(7, 7, 7) || replies[len(replies)-1] != reply(7, 7) || slices.ContainsFunc(ends, func(l []string) bool { return l[len(l)-1] != "seven" }) {
			t.Fatalf("%v: the calls wrote behind an end", x)
		}
	}
}

// P4: each word of a text is followed to the motion, or to the paper that brought
// it; and what was changed is taken back, paper by paper, until nothing is.
func TestP4EachWord(t *testing.T) {
	d := dice(1003)
	followed, steps := 0, 0
	for range 1500 {
		m := d.motion(api.MaxPapers)
		choice := d.choice(m)
		for len(choice) > 0 {
			w, o := written(t, m, choice)
			for i, from := range o {
				if from.Number != 0 && !slices.Contains(choice, from.Number) || wordsOf(m, from.Number)[from.Index] != w[i] {
					t.Fatalf("%v by %v: %q is from %v", m, choice, w[i], from)
				}
			}
			p, found := d.leaf(m, choice)
			if !found {
				t.Fatalf("%v: no paper of %v can be taken out", m, choice)
			}
			holdOneLess(t, m, choice, p)
			choice = without(choice, p.Number)
			followed += len(w)
			steps++
		}
		if w, _ := written(t, m, choice); !slices.Equal(w, m.Words) {
			t.Fatalf("%v: in the end %v", m, w)
		}
	}
	if followed < 10000 || steps < 2000 {
		t.Errorf("%d words were followed, %d papers taken out", followed, steps)
	}
}

// orders gives all orders of so many things, by their indices.
func orders(count int) [][]int {
	lists := [][]int{{}}
	for i := range count {
		var longer [][]int
		for _, l := range lists {
			for at := range len(l) + 1 {
				longer = append(longer, slices.Insert(slices.Clone(l), at, i))
			}
		}
		lists = longer
	}
	return lists
}

// P5: papers lead to the same in whatever order they come.
func TestP5AnyOrder(t *testing.T) {
	same := motion("a b", amends(5, 0, 1, 1, "p q"), amends(1, 0, 1, 1, "r"), amends(9, 5, 1, 1, "s"), amends(2, 5, 1, 1, "t"), amends(7, 0, 0, 2, "u"))
	for _, m := range []paper.Motion{house(), same} {
		all := orders(len(m.Papers))
		if len(all) != 120 {
			t.Fatalf("%d orders", len(all))
		}
		for _, l := range all {
			other := paper.Motion{Words: m.Words}
			for _, i := range l {
				other.Papers = append(other.Papers, m.Papers[i])
			}
			for _, choice := range allChoices(m) {
				holdSame(t, m, other, choice)
			}
		}
	}
}

// P5: questions and replies too may come in any order.
func TestP5AnyOrderOfQuestions(t *testing.T) {
	d := dice(1005)
	for range 2000 {
		l, replies := d.questions(30)
		day := d.roll(0, 40)
		want := map[int]uint8{}
		for i, state := range statesOf(l, replies, day) {
			want[l[i].Number] = state
		}
		mix(&d, l)
		mix(&d, replies)
		var states []uint8
		for _, q := range l {
			states = append(states, want[q.Number])
		}
		holdStanding(t, l, replies, day, states...)
	}
}

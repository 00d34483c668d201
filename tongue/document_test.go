package tongue_test

import (
	"math"
	"reflect"
	"slices"
	"strings"
	"testing"

	"palantype/api"
	"palantype/tongue"
)

// This file tests what DOC.md promises of each layer, for this one.

// input is what the calls are given.
type input struct {
	Left, Right text
	Steps       steps
	Lead        []bool
	Cost        int
	Table       tongue.Table
	Terms       []tongue.Term
	Speech      tongue.Speech
	Most        int
}

// output is what all calls return for it; Codes has their errors, by order.
type output struct {
	Match       steps
	Best, Cost  int
	Proof       tongue.Table
	Differences []int
	Counts      []tongue.Piece
	Times       []tongue.Range
	Keeps       bool
	Begins      []int
	Lines       int
	Blank       int
	Proved      bool
	Codes       [8]api.Errno
}

func callAll(x input) (y output) {
	y.Match, y.Best, y.Codes[0] = tongue.Match(x.Left, x.Right)
	y.Cost, y.Codes[1] = tongue.Cost(x.Left, x.Right, x.Steps)
	y.Proof, y.Codes[2] = tongue.Proof(x.Left, x.Right)
	y.Differences, y.Codes[3] = tongue.Differences(x.Left, x.Right, x.Steps)
	y.Counts, y.Codes[4] = tongue.Counts(x.Left, x.Right, x.Steps, x.Lead)
	y.Codes[5] = tongue.Terms(x.Terms)
	y.Times, y.Keeps, y.Codes[6] = tongue.Behind(x.Speech, x.Most)
	y.Begins, y.Lines, y.Blank, y.Codes[7] = tongue.Level(x.Left, x.Right, x.Steps)
	y.Proved = tongue.ProveCost(x.Left, x.Right, x.Cost, x.Table)
	return y
}

// list returns a copy with memory of its own; without elements it is nil, or
// as empty says.
func list[T any](l []T, empty bool) []T {
	if empty {
		return append([]T{}, l...)
	}
	return append([]T(nil), l...)
}

// copied returns a copy that shares no memory; lists of no elements are nil, or
// as empty says.
func copied(x input, empty bool) input {
	x.Left, x.Right = list(x.Left, empty), list(x.Right, empty)
	for _, l := range []text{x.Left, x.Right} {
		for i := range l {
			l[i].Marks = list(l[i].Marks, empty)
		}
	}
	x.Steps, x.Lead, x.Terms, x.Table = list(x.Steps, empty), list(x.Lead, empty), list(x.Terms, empty), list(x.Table, empty)
	for i := range x.Table {
		x.Table[i] = list(x.Table[i], empty)
	}
	x.Speech.Starts, x.Speech.Needs = list(x.Speech.Starts, empty), list(x.Speech.Needs, empty)
	return x
}

// settled returns a copy of the output; lists of no elements are nil.
func settled(y output) output {
	y.Match, y.Differences, y.Counts = list(y.Match, false), list(y.Differences, false), list(y.Counts, false)
	y.Times, y.Begins, y.Proof = list(y.Times, false), list(y.Begins, false), list(y.Proof, false)
	for i := range y.Proof {
		y.Proof[i] = list(y.Proof[i], false)
	}
	return y
}

// fill writes the element into all memory of the list, also behind its end.
func fill[T any](l []T, element T) {
	l = l[:cap(l)]
	for i := range l {
		l[i] = element
	}
}

// scribble writes into all memory of the output.
func scribble(y output) {
	fill(y.Match, step(77, 77))
	fill(y.Differences, 77)
	fill(y.Counts, tongue.Piece{Side: 77, Index: 77})
	fill(y.Times, span(77, 77))
	fill(y.Begins, 78)
	for _, row := range y.Proof {
		fill(row, 79)
	}
	fill(y.Proof, nil)
}

// strange throws a number that a caller may give by mistake, or any small one.
func (d *dice) strange() int {
	l := []int{math.MinInt, math.MinInt + 1, -1 << 32, -1, 0, 1, api.MaxLag, api.MaxLag + 1, api.MaxSize, api.MaxSize + 1, api.MaxMark, api.MaxMark + 1, api.MaxMoment, api.MaxMoment + 1, 1 << 32, math.MaxInt - 1, math.MaxInt}
	if d.one(2) {
		return d.roll(-2, 20)
	}
	return l[d.roll(0, len(l)-1)]
}

// ofTexts, ofSteps and others return where the numbers of the input stand.
func (x *input) ofTexts() []*int {
	var l []*int
	for _, text := range []text{x.Left, x.Right} {
		for i := range text {
			l = append(l, &text[i].Size)
			for k := range text[i].Marks {
				l = append(l, &text[i].Marks[k])
			}
		}
	}
	return l
}

func (x *input) ofSteps() []*int {
	var l []*int
	for i := range x.Steps {
		l = append(l, &x.Steps[i].Left, &x.Steps[i].Right)
	}
	return l
}

func (x *input) others() []*int {
	l := []*int{&x.Cost, &x.Speech.Lag, &x.Most}
	for i := range x.Speech.Starts {
		l = append(l, &x.Speech.Starts[i])
	}
	for i := range x.Speech.Needs {
		l = append(l, &x.Speech.Needs[i].Lo, &x.Speech.Needs[i].Hi)
	}
	for i := range x.Terms {
		l = append(l, &x.Terms[i].Mark)
	}
	for _, row := range x.Table {
		for i := range row {
			l = append(l, &row[i])
		}
	}
	return l
}

// terms throws terms that agree, or nearly.
func (d *dice) terms() []tongue.Term {
	all := several(8)
	var l []tongue.Term
	for range d.roll(0, 6) {
		l = append(l, all[d.roll(0, len(all)-1)])
	}
	if len(l) > 0 && d.one(3) {
		t, o := &l[d.roll(0, len(l)-1)], all[d.roll(0, len(all)-1)]
		switch d.roll(0, 2) {
		case 0:
			t.Mark = o.Mark
		case 1:
			t.Left = o.Left
		case 2:
			t.Right = o.Right
		}
	}
	return l
}

// valid throws an input that is valid, but for terms that may not agree.
func (d *dice) valid() input {
	var x input
	x.Left, x.Right = d.pair(8)
	x.Steps, x.Lead = d.match(x.Left, x.Right), d.leads(x.Left)
	x.Table, _ = tongue.Proof(x.Left, x.Right)
	x.Cost = x.Table[len(x.Left)][len(x.Right)]
	x.Terms = d.terms()
	x.Speech, x.Most = d.speech(d.roll(0, 8), 9), d.roll(0, 60)
	return copied(x, false)
}

// input throws an input that is valid, or has something strange somewhere, or
// is strange everywhere, or is large.
func (d *dice) input() input {
	x := d.valid()
	some := func(l []*int) {
		if len(l) > 0 {
			*l[d.roll(0, len(l)-1)] = d.strange()
		}
	}
	switch d.roll(0, 11) {
	case 0:
		some(x.ofTexts())
	case 1, 2:
		some(x.ofSteps())
		some(x.others())
	case 3:
		for _, n := range slices.Concat(x.ofTexts(), x.ofSteps(), x.others()) {
			*n = d.strange()
		}
	case 4:
		x.Left = slices.Repeat(x.Left, d.roll(1, 4))
		x.Right = slices.Repeat(x.Right, d.roll(1, 4))
		x.Lead = slices.Repeat(x.Lead, d.roll(1, 4))
		x.Terms = slices.Repeat(x.Terms, d.roll(1, 12))
		x.Speech.Needs = slices.Repeat(x.Speech.Needs, d.roll(1, 3))
	case 5:
		x.Steps = slices.Repeat(x.Steps, d.roll(0, 300))
		x.Table = slices.Repeat(x.Table, d.roll(0, 3))
		x.Lead = append(x.Lead, true)
	case 6:
		x.Steps = x.Steps[:len(x.Steps)/2]
		x.Lead = x.Lead[:len(x.Lead)/2]
		x.Speech.Starts = x.Speech.Starts[:len(x.Speech.Starts)/2]
	case 7:
		if len(x.Terms) > 0 {
			l := []string{"", strings.Repeat("x", 21), strings.Repeat("x", 20), "\xff"}
			x.Terms[d.roll(0, len(x.Terms)-1)].Left = l[d.roll(0, 3)]
		}
		for i := range x.Left {
			x.Left[i].Marks = slices.Repeat(x.Left[i].Marks, d.roll(1, 6))
		}
	case 8:
		x.Lead = d.leads(slices.Concat(x.Right, x.Right))
		x.Most = d.strange()
	}
	return copied(x, false)
}

// want says the error of each call, as the chapter has it.
func (x input) want() [8]api.Errno {
	texts := faultOf(x.Left, x.Right)
	match, counts := texts, texts
	if texts == api.OK {
		if _, ok := takenBy(x.Left, x.Right, x.Steps); !ok {
			match, counts = api.ErrFail, api.ErrFail
		} else if len(x.Lead) != len(x.Left) {
			counts = api.ErrRange
		}
	}
	return [8]api.Errno{texts, match, texts, match, counts, faultOfTerms(x.Terms), faultOfSpeech(x.Speech, x.Most), match}
}

// P1, with R1, R2 and R11: each call returns; it returns the first error, and
// beside it nothing else; and true just for what is valid.
func TestP1AllReturn(t *testing.T) {
	d := dice(1000)
	seen := map[api.Errno]int{}
	proved := 0
	for range 12000 {
		x := d.input()
		y := callAll(x)
		if want := x.want(); y.Codes != want {
			t.Fatalf("%v: %v, not %v", x, y.Codes, want)
		}
		for _, e := range y.Codes {
			seen[e]++
		}
		zero := [...]bool{
			len(y.Match) == 0 && y.Best == 0, y.Cost == 0, len(y.Proof) == 0, len(y.Differences) == 0, len(y.Counts) == 0, true,
			len(y.Times) == 0 && !y.Keeps, len(y.Begins) == 0 && y.Lines == 0 && y.Blank == 0,
		}
		for i, z := range zero {
			if y.Codes[i] != api.OK && !z {
				t.Fatalf("%v: the call %d returns %v, and more: %v", x, i, y.Codes[i], y)
			}
		}
		if want := y.Codes[0] == api.OK && proves(x.Left, x.Right, x.Cost, x.Table); y.Proved != want {
			t.Fatalf("%v: proved is %v, with %v", x, y.Proved, y.Codes)
		}
		if y.Proved {
			proved++
		}
		if y.Codes[2] == api.OK && len(y.Proof) != len(x.Left)+1 || y.Codes[6] == api.OK && len(y.Times) != len(x.Speech.Starts) || y.Codes[7] == api.OK && len(y.Begins) != len(x.Steps) {
			t.Fatalf("%v: %v", x, y)
		}
	}
	for _, e := range []api.Errno{api.OK, api.ErrArg, api.ErrRange, api.ErrLimit, api.ErrTwice, api.ErrFail} {
		if seen[e] < 500 {
			t.Errorf("%v was returned %d times", e, seen[e])
		}
	}
	if proved < 3000 {
		t.Errorf("%d were proved", proved)
	}
}

// R3 and R4: lists without elements are all the same, no call writes into an
// argument, what is returned is new memory, and nothing is remembered.
func TestR3R4Memory(t *testing.T) {
	d := dice(1001)
	var last input
	for range 3000 {
		x := d.input()
		kept := copied(x, false)
		first := callAll(x)
		want := settled(first)
		if !reflect.DeepEqual(copied(x, false), kept) {
			t.Fatalf("%v has become %v", kept, x)
		}
		callAll(last)
		if y := settled(callAll(copied(x, true))); !reflect.DeepEqual(y, want) {
			t.Fatalf("%v: %v, and then %v", x, want, y)
		}
		scribble(first)
		if !reflect.DeepEqual(copied(x, false), kept) {
			t.Fatalf("what is returned for %v has memory of it", kept)
		}
		if y := settled(callAll(x)); !reflect.DeepEqual(y, want) {
			t.Fatalf("%v: %v, and then %v", x, want, y)
		}
		last = x
	}
}

// R4: no two rows of a table share memory, not even behind their ends.
func TestR4RowsApart(t *testing.T) {
	d := dice(1002)
	for range 200 {
		l, r := d.pair(8)
		p := proofOf(t, l, r)
		want := cloned(p)
		for i, row := range p {
			fill(row, -7)
			for k := i + 1; k < len(p); k++ {
				if !slices.Equal(p[k], want[k]) {
					t.Fatalf("Proof of %v, %v: the row %d has memory of the row %d", l, r, k, i)
				}
			}
		}
	}
}

// R4: no call writes behind the end of an argument.
func TestR4BehindTheEnd(t *testing.T) {
	d := dice(1003)
	for range 1000 {
		x := d.valid()
		var ends [][]int
		longer := func(l []int) []int {
			l = append(slices.Clone(l), 7)
			ends = append(ends, l)
			return l[:len(l)-1]
		}
		for _, text := range []text{x.Left, x.Right} {
			for i := range text {
				text[i].Marks = longer(text[i].Marks)
			}
		}
		for i := range x.Table {
			x.Table[i] = longer(x.Table[i])
		}
		x.Speech.Starts = longer(x.Speech.Starts)
		l, r := append(slices.Clone(x.Left), says(7)), append(slices.Clone(x.Right), says(7))
		list, lead, terms := append(slices.Clone(x.Steps), step(7, 7)), append(slices.Clone(x.Lead), true), append(slices.Clone(x.Terms), term(7, "", ""))
		table, needs := append(slices.Clone(x.Table), []int{7}), append(slices.Clone(x.Speech.Needs), span(7, 7))
		x.Left, x.Right, x.Steps, x.Lead = l[:len(l)-1], r[:len(r)-1], list[:len(list)-1], lead[:len(lead)-1]
		x.Terms, x.Table, x.Speech.Needs = terms[:len(terms)-1], table[:len(table)-1], needs[:len(needs)-1]
		callAll(x)
		if l[len(l)-1].Size != 7 || r[len(r)-1].Size != 7 || list[len(list)-1] != step(7, 7) || !lead[len(lead)-1] || terms[len(terms)-1] != term(7, "", "") ||
			!slices.Equal(table[len(table)-1], []int{7}) || needs[len(needs)-1] != span(7, 7) || slices.ContainsFunc(ends, func(l []int) bool { return l[len(l)-1] != 7 }) {
			t.Fatalf("%v: the calls wrote behind an end", x)
		}
	}
}

package mend_test

import (
	"math"
	"reflect"
	"slices"
	"strings"
	"testing"

	"palantype/api"
	"palantype/mend"
)

// This file tests what DOC.md promises of each layer, for this one.

// input is what the calls are given.
type input struct {
	L        mend.Lexicon
	Swaps    []mend.Swap
	Old, New []string
	R        mend.Report
	Requests []mend.Request
}

// output is what all calls return for it; Codes has their errors, by order.
type output struct {
	Sense    []mend.Mark
	Trouble  int
	Answers  []api.Errno
	Versions []mend.Segment
	Codes    [6]api.Errno
}

func callAll(x input) (y output) {
	y.Codes[0] = mend.CheckLexicon(x.L)
	y.Sense, y.Codes[1] = mend.Sense(x.L, x.Old)
	y.Trouble, y.Codes[2] = mend.Trouble(x.L, x.Swaps, x.Old, x.New)
	y.Codes[3] = mend.CheckReport(x.R)
	y.Answers, y.Codes[4] = mend.Decide(x.L, x.Swaps, x.R, x.Requests)
	y.Versions, y.Codes[5] = mend.Versions(x.L, x.Swaps, x.R, x.Requests)
	return y
}

// list returns a copy with memory of its own; without elements it is nil, or
// as empty says.
func list[T any](l []T, empty bool) []T {
	if empty {
		return append([]T{}, l...)
	}
	return append([]T(nil), l...)
}

// copied returns a copy that shares no memory; lists of no elements are nil, or
// as empty says.
func copied(x input, empty bool) input {
	x.L.Numbers, x.L.Names, x.L.Nots = list(x.L.Numbers, empty), list(x.L.Names, empty), list(x.L.Nots, empty)
	for i := range x.L.Names {
		x.L.Names[i] = list(x.L.Names[i], empty)
	}
	x.Swaps, x.Old, x.New = list(x.Swaps, empty), list(x.Old, empty), list(x.New, empty)
	x.R.Words, x.Requests = list(x.R.Words, empty), list(x.Requests, empty)
	for i := range x.Requests {
		x.Requests[i].Put = list(x.Requests[i].Put, empty)
	}
	return x
}

// settled returns a copy of the output; lists of no elements are nil.
func settled(y output) output {
	y.Sense, y.Answers, y.Versions = list(y.Sense, false), list(y.Answers, false), list(y.Versions, false)
	for i, s := range y.Versions {
		y.Versions[i].Old, y.Versions[i].New = list(s.Old, false), list(s.New, false)
	}
	return y
}

// scribble writes into all memory of the output, also behind the ends of its
// lists.
func scribble(y output) {
	for _, s := range y.Versions {
		for _, texts := range [][]string{s.Old[:cap(s.Old)], s.New[:cap(s.New)]} {
			for i := range texts {
				texts[i] = "scribbled"
			}
		}
	}
	for i := range y.Sense[:cap(y.Sense)] {
		y.Sense[:cap(y.Sense)][i] = mend.Mark{Kind: 77}
	}
	for i := range y.Answers[:cap(y.Answers)] {
		y.Answers[:cap(y.Answers)][i] = 77
	}
}

// strange throws a number that a caller may give by mistake, or any small one.
func (d *dice) strange() int {
	l := []int{math.MinInt, math.MinInt + 1, -1 << 32, -1, 0, 1, api.MaxPhrase, api.MaxPhrase + 1, api.MaxReport, api.MaxMember, api.MaxMember + 1, api.MaxMinute, api.MaxMinute + 1, api.MaxValue, api.MaxValue + 1, 1 << 32, math.MaxInt - 1, math.MaxInt}
	if d.one(2) {
		return d.roll(-2, 20)
	}
	return l[d.roll(0, len(l)-1)]
}

// strangeText throws a text, which mostly is none.
func (d *dice) strangeText() string {
	l := append(noTexts(), "a", "~", "!", "0", "00", "999999999", "1000000000", strings.Repeat("x", 32))
	return l[d.roll(0, len(l)-1)]
}

// numbers, texts and kinds return where those of the input stand.
func (x *input) numbers() []*int {
	l := []*int{&x.R.Out, &x.R.Within}
	for i := range x.L.Numbers {
		l = append(l, &x.L.Numbers[i].Value)
	}
	for i := range x.Swaps {
		l = append(l, &x.Swaps[i].Old, &x.Swaps[i].New)
	}
	for i := range x.R.Words {
		l = append(l, &x.R.Words[i].Speaker)
	}
	return l
}

func (x *input) numbersOfRequests() []*int {
	var l []*int
	for i := range x.Requests {
		q := &x.Requests[i]
		l = append(l, &q.By, &q.Minute, &q.From, &q.Cut)
	}
	return l
}

func (x *input) texts() []*string {
	lists := [][]string{x.Old, x.New, x.L.Nots}
	lists = append(lists, x.L.Names...)
	for _, q := range x.Requests {
		lists = append(lists, q.Put)
	}
	var l []*string
	for _, texts := range lists {
		for i := range texts {
			l = append(l, &texts[i])
		}
	}
	for i := range x.L.Numbers {
		l = append(l, &x.L.Numbers[i].Text)
	}
	for i := range x.R.Words {
		l = append(l, &x.R.Words[i].Text)
	}
	return l
}

// input throws an input that is valid, or has something strange somewhere, or
// is strange everywhere, or is large.
func (d *dice) input() input {
	w := d.world(10)
	x := copied(input{w.l, w.swaps, d.texts(0, 9), d.texts(0, 9), w.r, d.requests(w, 10)}, false)
	numbers, ofRequests, texts := x.numbers(), x.numbersOfRequests(), x.texts()
	switch d.roll(0, 9) {
	case 0, 1:
		*numbers[d.roll(0, len(numbers)-1)] = d.strange()
	case 2:
		if len(texts) > 0 {
			*texts[d.roll(0, len(texts)-1)] = d.strangeText()
		}
	case 3, 4:
		for _, n := range ofRequests {
			if d.one(3) {
				*n = d.strange()
			}
		}
	case 5:
		for _, n := range slices.Concat(numbers, ofRequests) {
			*n = d.strange()
		}
		for _, s := range texts {
			*s = d.strangeText()
		}
		for i := range x.Swaps {
			x.Swaps[i].Kind = uint8(d.roll(0, 255))
		}
	case 6:
		x.Swaps = slices.Repeat(append(x.Swaps, swapNumber(1, 2)), d.roll(1, 4))
		x.Old = slices.Repeat(append(x.Old, "not"), d.roll(1, 20))
		x.R.Words = slices.Repeat(append(x.R.Words, said("a1")...), d.roll(1, 12))
		x.Requests = slices.Repeat(append(x.Requests, request(1, 1, 0, 1, "x")), d.roll(1, 4))
	case 7:
		if len(x.L.Nots) > 0 {
			x.L.Nots = append(x.L.Nots, x.L.Nots[0])
		}
	}
	return x
}

// P1, with R2: each call returns; beside an error it returns nothing else.
func TestP1AllReturn(t *testing.T) {
	d := dice(1000)
	seen := map[api.Errno]int{}
	for range 8000 {
		x := d.input()
		y := callAll(x)
		for _, e := range y.Codes {
			seen[e]++
		}
		zero := [...]bool{true, len(y.Sense) == 0, y.Trouble == 0, true, len(y.Answers) == 0, len(y.Versions) == 0}
		for i, z := range zero {
			if y.Codes[i] != api.OK && !z {
				t.Fatalf("%v: the call %d returns %v, and more", x, i, y.Codes[i])
			}
			if y.Codes[0] != api.OK && i != 3 && y.Codes[i] != y.Codes[0] {
				t.Fatalf("%v: CheckLexicon returns %v; the others %v", x, y.Codes[0], y.Codes)
			}
		}
		if y.Codes[4] != y.Codes[5] || y.Codes[3] != api.OK && y.Codes[4] == api.OK || y.Codes[4] == api.OK && len(y.Answers) != len(x.Requests) {
			t.Fatalf("%v: %v, %v", x, y.Codes, y.Answers)
		}
	}
	for _, e := range []api.Errno{api.OK, api.ErrArg, api.ErrTwice, api.ErrLimit} {
		if seen[e] < 500 {
			t.Errorf("%v was returned %d times", e, seen[e])
		}
	}
}

// R3 and R4: lists without elements are all the same, no call writes into an
// argument, what is returned is new memory, and nothing is remembered.
func TestR3R4Memory(t *testing.T) {
	d := dice(1001)
	var last input
	for range 2000 {
		x := d.input()
		kept := copied(x, false)
		first := callAll(x)
		want := settled(first)
		if !reflect.DeepEqual(copied(x, false), kept) {
			t.Fatalf("%v has become %v", kept, x)
		}
		callAll(last)
		if y := settled(callAll(copied(x, true))); !reflect.DeepEqual(y, want) {
			t.Fatalf("%v: %v, and then %v", x, want, y)
		}
		scribble(first)
		if !reflect.DeepEqual(copied(x, false), kept) {
			t.Fatalf("what is returned for %v has memory of it", kept)
		}
		if y := settled(callAll(x)); !reflect.DeepEqual(y, want) {
			t.Fatalf("%v: %v, and then %v", x, want, y)
		}
		last = x
	}
}

// R4: no list of a result has memory of another one, nor of an argument behind
// its end.
func TestR4ListsApart(t *testing.T) {
	put := append(make([]string, 0, 9), "has", "paid")
	requests := wishes()
	requests[0].Put = put
	versions, e := mend.Versions(example(), tenTo12(), sentence().r, requests)
	if len(versions) != 4 || e != api.OK {
		t.Fatalf("Versions: %v, %v", versions, e)
	}
	var lists [][]string
	for _, s := range versions {
		lists = append(lists, s.Old, s.New)
	}
	for i, l := range lists {
		for k := range l[:cap(l)] {
			l[:cap(l)][k] = string(rune('A' + i))
		}
	}
	for i, l := range lists {
		if slices.ContainsFunc(l, func(s string) bool { return s != string(rune('A'+i)) }) {
			t.Errorf("Versions: the list %d has become %v", i, l)
		}
	}
	if !slices.Equal(put, words("has paid")) || put[:3][2] != "" {
		t.Errorf("Versions wrote into what is put: %v", put[:9])
	}
}

// P4: a correction keeps numbers, names and negations. What is accepted is put
// into the report word by word, and read again.
func TestP4EachWord(t *testing.T) {
	d := dice(1002)
	accepted, marks := 0, 0
	for range 3000 {
		w := d.world(10)
		w.swaps = nil
		q := d.request(w)
		answers, versions := decided(t, w, []mend.Request{q})
		texts := textsOf(w.r.Words)
		before := senses(t, w.l, texts)
		if answers[0] == api.OK {
			texts = slices.Replace(texts, q.From, q.From+q.Cut, q.Put...)
			accepted++
			marks += len(before)
		}
		if after := senses(t, w.l, texts); !slices.Equal(after, before) {
			t.Fatalf("%v, %v: %v has become %v", w, q, before, after)
		}
		if _, new := bothVersions(versions); !slices.Equal(new, texts) {
			t.Fatalf("%v, %v: %v, not %v", w, q, versions, texts)
		}
	}
	if accepted < 700 || marks < 2000 {
		t.Errorf("%d accepted, with %d marks", accepted, marks)
	}
}

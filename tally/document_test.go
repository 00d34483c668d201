package tally_test

import (
	"math"
	"reflect"
	"slices"
	"testing"

	"palantype/api"
	"palantype/tally"
)

// This file tests what DOC.md promises of each layer, for this one.

// input is what the calls are given.
type input struct {
	D       tally.Division
	Truth   []uint8
	Outcome uint8
	Members []int
}

// output is what all calls return for it; Codes has their errors, by order.
type output struct {
	Clash      int
	Numbers    tally.Numbers
	Outcome    uint8
	Doubts     []int
	Ayes, Noes tally.Range
	Allowed    []uint8
	Witness    []uint8
	Question   []int
	Proved     bool
	Codes      [8]api.Errno
}

func callAll(x input) (y output) {
	y.Codes[0] = tally.CheckDivision(x.D)
	y.Clash, y.Codes[1] = tally.Clash(x.D)
	y.Numbers, y.Outcome, y.Codes[2] = tally.Count(x.D, x.Truth)
	y.Doubts, y.Codes[3] = tally.Doubts(x.D)
	y.Ayes, y.Noes, y.Codes[4] = tally.Bounds(x.D)
	y.Allowed, y.Codes[5] = tally.Allowed(x.D)
	y.Witness, y.Codes[6] = tally.Witness(x.D, x.Outcome)
	y.Question, y.Codes[7] = tally.Ask(x.D)
	y.Proved = tally.ProveAsk(x.D, x.Members)
	return y
}

// list returns a copy with memory of its own; without elements it is nil, or
// as empty says.
func list[T any](l []T, empty bool) []T {
	if empty {
		return append([]T{}, l...)
	}
	return append([]T(nil), l...)
}

// copied returns a copy that shares no memory; lists of no elements are nil, or
// as empty says.
func copied(x input, empty bool) input {
	for _, l := range listsOf(&x.D) {
		*l = list(*l, empty)
	}
	x.D.Pairs, x.D.Proxies = list(x.D.Pairs, empty), list(x.D.Proxies, empty)
	x.Truth, x.Members = list(x.Truth, empty), list(x.Members, empty)
	return x
}

// settled returns a copy of the output; lists of no elements are nil.
func settled(y output) output {
	y.Doubts, y.Question = list(y.Doubts, false), list(y.Question, false)
	y.Allowed, y.Witness = list(y.Allowed, false), list(y.Witness, false)
	return y
}

// fill writes the element into all memory of the list, also behind its end.
func fill[T any](l []T, element T) {
	l = l[:cap(l)]
	for i := range l {
		l[i] = element
	}
}

// scribble writes into all memory of the output.
func scribble(y output) {
	fill(y.Doubts, 77)
	fill(y.Question, 78)
	fill(y.Allowed, 79)
	fill(y.Witness, 80)
}

// strange throws a number that a caller may give by mistake, or any small one.
func (d *dice) strange() int {
	l := []int{math.MinInt, math.MinInt + 1, -1 << 32, -1, 0, 1, api.MaxDoubts, api.MaxPairs, api.MaxMembers - 1, api.MaxMembers, api.MaxMembers + 1, 1 << 32, math.MaxInt - 1, math.MaxInt}
	if d.one(2) {
		return d.roll(-2, 20)
	}
	return l[d.roll(0, len(l)-1)]
}

// numbers and bytes return where those of the input stand.
func (x *input) numbers() []*int {
	l := []*int{&x.D.Members, &x.D.Need, &x.D.Quorum}
	for i := range x.D.Pairs {
		l = append(l, &x.D.Pairs[i].A, &x.D.Pairs[i].B)
	}
	for i := range x.D.Proxies {
		l = append(l, &x.D.Proxies[i].Holder, &x.D.Proxies[i].For)
	}
	for _, numbers := range append([][]int{x.Members}, x.D.Ayes[0], x.D.Ayes[1], x.D.Noes[0], x.D.Noes[1]) {
		for i := range numbers {
			l = append(l, &numbers[i])
		}
	}
	return l
}

func (x *input) bytes() []*uint8 {
	l := []*uint8{&x.D.Rule, &x.D.Tie, &x.Outcome}
	for i := range x.Truth {
		l = append(l, &x.Truth[i])
	}
	return l
}

// valid throws an input that is valid.
func (d *dice) valid() input {
	x := input{D: d.division(d.roll(1, 14), 6), Outcome: uint8(d.roll(0, 2))}
	rows := truthsOf(x.D)
	x.Truth = rows[d.roll(0, len(rows)-1)]
	x.Members = slices.DeleteFunc(doubtsOf(x.D), func(int) bool { return d.one(5) })
	return copied(x, false)
}

// input throws an input that is valid, or has something strange somewhere, or
// is strange everywhere, or is large.
func (d *dice) input() input {
	x := d.valid()
	switch d.roll(0, 11) {
	case 0, 1:
		l := x.numbers()
		*l[d.roll(0, len(l)-1)] = d.strange()
	case 2:
		l := x.bytes()
		*l[d.roll(0, len(l)-1)] = uint8(d.roll(0, 255))
	case 3:
		for _, n := range x.numbers() {
			*n = d.strange()
		}
		for _, n := range x.bytes() {
			*n = uint8(d.roll(0, 4))
		}
	case 4: // somebody clashes
		m := d.roll(0, x.D.Members-1)
		for _, l := range listsOf(&x.D) {
			*l = puts(*l, m, true)
		}
	case 5: // many are doubtful
		many := d.division(api.MaxMembers, 80)
		x.D.Members, x.D.Ayes, x.D.Noes = max(x.D.Members, many.Members), many.Ayes, many.Noes
		if d.one(2) {
			x.Truth = make([]uint8, x.D.Members)
		}
	case 6:
		x.Truth = slices.Repeat(x.Truth, d.roll(0, 300))
		x.Members = slices.Repeat(x.Members, d.roll(0, 300))
		x.D.Pairs = slices.Repeat(x.D.Pairs, d.roll(1, 12))
		x.D.Proxies = slices.Repeat(x.D.Proxies, d.roll(1, 12))
		x.D.Ayes[1] = slices.Repeat(x.D.Ayes[1], d.roll(1, 2))
	case 7:
		x.Truth[d.roll(0, len(x.Truth)-1)] = uint8(d.roll(0, 2))
	case 8:
		x.Outcome = uint8(d.roll(3, 255))
	}
	return x
}

// want says the error of each call, as the chapter has it.
func (x input) want() [8]api.Errno {
	first := func(l ...api.Errno) api.Errno { // that is an error
		for _, e := range l {
			if e != api.OK {
				return e
			}
		}
		return api.OK
	}
	when := func(is bool, e api.Errno) api.Errno {
		if is {
			return e
		}
		return api.OK
	}
	e := faultOf(x.D)
	if e != api.OK {
		return [8]api.Errno{e, e, e, e, e, e, e, e}
	}
	clash := when(len(clashOf(x.D)) > 0, api.ErrFail)
	limit := when(len(doubtsOf(x.D)) > api.MaxDoubts, api.ErrLimit)
	unsure := first(clash, limit)
	witness := first(when(x.Outcome > 2, api.ErrRange), unsure)
	if witness == api.OK && answersOf(x.D).witness(x.Outcome) == nil {
		witness = api.ErrNone
	}
	return [8]api.Errno{e, when(clash == api.OK, api.ErrNone), faultOfTruth(x.D, x.Truth), clash, unsure, unsure, witness, unsure}
}

// P1, with R1 and R2: each call returns; it returns the first error, and beside
// it nothing else.
func TestP1AllReturn(t *testing.T) {
	d := dice(1000)
	seen := map[api.Errno]int{}
	proved := 0
	for range 12000 {
		x := d.input()
		y := callAll(x)
		want := x.want()
		if y.Codes != want {
			t.Fatalf("%v: %v, not %v", x, y.Codes, want)
		}
		for _, e := range y.Codes {
			seen[e]++
		}
		zero := [...]bool{
			true, y.Clash == 0, y.Numbers == numbers(0, 0) && y.Outcome == 0, len(y.Doubts) == 0, y.Ayes == span(0, 0) && y.Noes == span(0, 0),
			len(y.Allowed) == 0, len(y.Witness) == 0, len(y.Question) == 0,
		}
		for i, z := range zero {
			if y.Codes[i] != api.OK && !z {
				t.Fatalf("%v: the call %d returns %v, and more: %v", x, i, y.Codes[i], y)
			}
		}
		if y.Proved {
			proved++
			if y.Codes[7] != api.OK {
				t.Fatalf("%v: proved, though %v", x, y.Codes)
			}
		}
		if y.Codes[6] == api.OK && len(y.Witness) != x.D.Members || y.Codes[5] == api.OK && len(y.Allowed) == 0 {
			t.Fatalf("%v: %v", x, y)
		}
	}
	for _, e := range []api.Errno{api.OK, api.ErrArg, api.ErrRange, api.ErrLimit, api.ErrNone, api.ErrFail} {
		if seen[e] < 1000 {
			t.Errorf("%v was returned %d times", e, seen[e])
		}
	}
	if proved < 2000 {
		t.Errorf("%d were proved", proved)
	}
}

// R3 and R4: lists without elements are all the same, no call writes into an
// argument, what is returned is new memory, and nothing is remembered.
func TestR3R4Memory(t *testing.T) {
	d := dice(1001)
	var last input
	for range 3000 {
		x := d.input()
		kept := copied(x, false)
		first := callAll(x)
		want := settled(first)
		if !reflect.DeepEqual(copied(x, false), kept) {
			t.Fatalf("%v has become %v", kept, x)
		}
		callAll(last)
		if y := settled(callAll(copied(x, true))); !reflect.DeepEqual(y, want) {
			t.Fatalf("%v: %v, and then %v", x, want, y)
		}
		scribble(first)
		if !reflect.DeepEqual(copied(x, false), kept) {
			t.Fatalf("what is returned for %v has memory of it", kept)
		}
		if y := settled(callAll(x)); !reflect.DeepEqual(y, want) {
			t.Fatalf("%v: %v, and then %v", x, want, y)
		}
		last = x
	}
}

// R4: no call writes behind the end of an argument.
func TestR4BehindTheEnd(t *testing.T) {
	d := dice(1002)
	for range 1000 {
		x := d.valid()
		var ends [][]int
		longer := func(l []int) []int {
			l = append(slices.Clone(l), 7)
			ends = append(ends, l)
			return l[:len(l)-1]
		}
		for _, l := range listsOf(&x.D) {
			*l = longer(*l)
		}
		x.Members = longer(x.Members)
		pairs, proxies, truth := append(slices.Clone(x.D.Pairs), pair(7, 7)), append(slices.Clone(x.D.Proxies), proxy(7, 7)), append(slices.Clone(x.Truth), 7)
		x.D.Pairs, x.D.Proxies, x.Truth = pairs[:len(pairs)-1], proxies[:len(proxies)-1], truth[:len(truth)-1]
		callAll(x)
		if pairs[len(pairs)-1] != pair(7, 7) || proxies[len(proxies)-1] != proxy(7, 7) || truth[len(truth)-1] != 7 || slices.ContainsFunc(ends, func(l []int) bool { return l[len(l)-1] != 7 }) {
			t.Fatalf("%v: the calls wrote behind an end", x)
		}
	}
}

// P3: whoever truly voted is among those whom the program names, with the vote;
// and what it names alone, that was.
func TestP3WhoeverItWas(t *testing.T) {
	d := dice(1003)
	alone, among, voters := 0, 0, 0
	for range 3000 {
		x, truth := d.vote(api.MaxMembers, d.roll(0, 8))
		s := sureOf(t, x)
		n, o := counted(t, x, truth)
		if len(s.allowed) == 1 {
			alone++
		} else {
			among++
		}
		if !slices.Contains(s.allowed, o) {
			t.Fatalf("%v was %v, with %v: %v", x, truth, o, s)
		}
		if !has(s.ayes, n.Ayes) || !has(s.noes, n.Noes) {
			t.Fatalf("%v was %v, with %v: %v", x, truth, n, s)
		}
		for m, vote := range truth {
			if slices.Contains(s.doubts, m) {
				continue
			}
			voters++
			for _, o := range s.allowed {
				if s.witnesses[o][m] != vote {
					t.Fatalf("%v was %v: %d is not doubtful, but voted %v by %v", x, truth, m, vote, s)
				}
			}
		}
		// Once the members of the least question have told their votes, what is
		// named alone is what was.
		holdAllowed(t, asked(x, s.question, truth), o)
	}
	if alone < 1000 || among < 300 || voters < 25000 {
		t.Errorf("%d times one outcome is named, %d times more; %d members are sure", alone, among, voters)
	}
}

package take_test

import (
	"math"
	"reflect"
	"testing"

	"palantype/api"
	"palantype/take"
)

// This file tests what DOC.md promises of each layer, for this one.

// input is what the calls are given.
type input struct {
	S                take.Sitting
	O                take.Office
	Rota             []int
	Real             []take.Real
	Reporter, Second int
}

// output is what all calls return for it; Codes has their errors, by order.
type output struct {
	Takes             []take.Span
	At, Fails         int
	Rota, Done        []int
	Proved            bool
	After, Open       []int
	Codes             [8]api.Errno
	SittingE, OfficeE api.Errno
}

func callAll(x input) (y output) {
	y.SittingE = take.CheckSitting(x.S)
	y.OfficeE = take.CheckOffice(x.O)
	y.Takes, y.Codes[0] = take.Takes(x.S)
	y.At, y.Codes[1] = take.At(x.S, x.Second)
	y.Rota, y.Codes[2] = take.Rota(x.S, x.O)
	y.Fails, y.Codes[3] = take.Fails(x.S, x.O)
	y.Proved = take.ProveRota(x.S, x.O, x.Rota)
	y.Done, y.Codes[4] = take.Done(x.S, x.O, x.Rota, x.Real)
	y.After, y.Open, y.Codes[5] = take.Relieve(x.S, x.O, x.Rota, x.Reporter, x.Second)
	return y
}

// copied returns a copy that shares no memory; lists of no elements become nil.
func copied(x input) input {
	x.S.Pauses = append([]take.Span(nil), x.S.Pauses...)
	x.O.Crew = append([]take.Reporter(nil), x.O.Crew...)
	x.Rota = append([]int(nil), x.Rota...)
	x.Real = append([]take.Real(nil), x.Real...)
	return x
}

// emptied returns the input with empty lists for nil.
func emptied(x input) input {
	x = copied(x)
	x.S.Pauses = append([]take.Span{}, x.S.Pauses...)
	x.O.Crew = append([]take.Reporter{}, x.O.Crew...)
	x.Rota = append([]int{}, x.Rota...)
	x.Real = append([]take.Real{}, x.Real...)
	return x
}

// settled returns the output in memory of its own; lists of no elements
// become nil.
func settled(y output) output {
	y.Takes = append([]take.Span(nil), y.Takes...)
	for _, l := range []*[]int{&y.Rota, &y.Done, &y.After, &y.Open} {
		*l = append([]int(nil), *l...)
	}
	return y
}

// scribble writes into all memory of the output.
func scribble(y output) {
	for i := range y.Takes {
		y.Takes[i] = span(-7, -7)
	}
	for _, l := range [][]int{y.Rota, y.Done, y.After, y.Open} {
		for i := range l {
			l[i] = -7
		}
	}
}

// strange throws a number that a caller may give by mistake, or any small one.
func (d *dice) strange() int {
	list := []int{math.MinInt, math.MinInt + 1, -1 << 32, -1, 0, 1, api.MaxSlow, api.MaxTakes, api.MaxLong, api.MaxLong + 1, api.MaxLength, api.MaxLength + 1, 1 << 31, 1 << 32, math.MaxInt - 1, math.MaxInt}
	if d.roll(0, 1) == 0 {
		return d.roll(-2, 60)
	}
	return list[d.roll(0, len(list)-1)]
}

// input throws an input that is valid, or has a strange number somewhere, or
// nothing but strange numbers.
func (d *dice) input() input {
	x := input{S: d.smallSitting(), O: d.smallOffice(api.MaxCrew)}
	takes := cutBySeconds(x.S)
	x.Rota = d.rightRota(takes, x.O)
	if x.Rota == nil {
		x.Rota = d.list(len(takes), len(x.O.Crew))
	}
	x.Real = d.real(x.O, x.Rota)
	x.Reporter, x.Second = d.roll(0, len(x.O.Crew)-1), d.roll(0, x.S.Length)
	numbers := x.numbers()
	switch d.roll(0, 3) {
	case 0:
	case 1, 2:
		*numbers[d.roll(0, len(numbers)-1)] = d.strange()
	default:
		for _, n := range numbers {
			*n = d.strange()
		}
	}
	return x
}

// numbers returns where the numbers of the input stand.
func (x *input) numbers() []*int {
	list := []*int{&x.S.Length, &x.S.Long, &x.S.Short, &x.O.Due, &x.O.Delay, &x.Reporter, &x.Second}
	for i := range x.S.Pauses {
		list = append(list, &x.S.Pauses[i].From, &x.S.Pauses[i].To)
	}
	for i := range x.O.Crew {
		list = append(list, &x.O.Crew[i].Slow.Lo, &x.O.Crew[i].Slow.Hi, &x.O.Crew[i].Rest)
	}
	for i := range x.Rota {
		list = append(list, &x.Rota[i])
	}
	for i := range x.Real {
		list = append(list, &x.Real[i].Slow, &x.Real[i].Delay)
	}
	return list
}

// P1, with R2: each call returns; beside an error it returns nothing else.
func TestP1AllReturn(t *testing.T) {
	d := dice(100)
	seen := map[api.Errno]int{}
	for range 6000 {
		x := d.input()
		y := callAll(x)
		for _, e := range y.Codes {
			seen[e]++
		}
		zero := [...]bool{len(y.Takes) == 0, y.At == 0, len(y.Rota) == 0, y.Fails == 0, len(y.Done) == 0, len(y.After) == 0 && len(y.Open) == 0}
		for i, z := range zero {
			if y.Codes[i] != api.OK && !z {
				t.Fatalf("%v: the call %d returns %v, and more", x, i, y.Codes[i])
			}
		}
		if y.SittingE != y.Codes[0] || y.SittingE != api.OK && (y.Proved || y.Codes[2] != y.SittingE) {
			t.Fatalf("%v: CheckSitting returns %v; the others %v, %v", x, y.SittingE, y.Codes, y.Proved)
		}
		if y.SittingE == api.OK && y.OfficeE != api.OK && (y.Proved || y.Codes[2] != y.OfficeE || y.Codes[5] != y.OfficeE) {
			t.Fatalf("%v: CheckOffice returns %v; the others %v, %v", x, y.OfficeE, y.Codes, y.Proved)
		}
	}
	for _, e := range []api.Errno{api.OK, api.ErrArg, api.ErrRange, api.ErrNone, api.ErrFail} {
		if seen[e] < 100 {
			t.Errorf("%v was returned %d times", e, seen[e])
		}
	}
}

// R3 and R4: lists without elements are all the same, no call writes into an
// argument, what is returned is new memory, and nothing is remembered.
func TestR3R4Memory(t *testing.T) {
	d := dice(101)
	var last input
	for range 2000 {
		x := d.input()
		first, kept := callAll(x), copied(x)
		want := settled(first)
		if !reflect.DeepEqual(copied(x), kept) {
			t.Fatalf("%v has become %v", kept, x)
		}
		callAll(last)
		if y := settled(callAll(emptied(x))); !reflect.DeepEqual(y, want) {
			t.Fatalf("%v: %v, and then %v", x, want, y)
		}
		scribble(first)
		if !reflect.DeepEqual(copied(x), kept) {
			t.Fatalf("what is returned for %v has memory of it", kept)
		}
		if y := settled(callAll(x)); !reflect.DeepEqual(y, want) {
			t.Fatalf("%v: %v, and then %v", x, want, y)
		}
		last = x
	}
}

// R4: what is returned does not change with the arguments, nor do the two
// lists of Relieve share memory.
func TestR4RelieveKeepsNothing(t *testing.T) {
	s, o, rota := easy()
	after, open, _ := take.Relieve(s, o, rota, 2, 31)
	rota[0], o.Crew[0].Slow.Hi = 1, 9
	if len(after) != 6 || after[0] != 2 || len(open) != 1 || open[0] != 3 {
		t.Fatalf("Relieve: %v, %v", after, open)
	}
	open = append(open, 8, 8, 8, 8, 8, 8)
	open[0] = 8
	if after[0] != 2 || after[1] != 1 || after[2] != 0 || after[3] != 2 {
		t.Errorf("both lists of Relieve have the same memory: %v", after)
	}
}

// P2: each second that is in no pause is in one take, and a right rota keeps
// breaks and times for each delay within its bounds.
func TestP2EachSecond(t *testing.T) {
	d := dice(102)
	kept := 0
	for range 300 {
		s, o := d.smallSitting(), d.smallOffice(3)
		eachSecond(t, s)
		rota, e := take.Rota(s, o)
		if e != api.OK {
			continue
		}
		for range 10 {
			keepsAll(t, s, o, rota, d.real(o, rota))
			kept++
		}
	}
	if kept < 500 {
		t.Errorf("%d rotas were looked at", kept)
	}
	// Example 1 of the document.
	if l, e := take.Takes(plain(400, 180, 60)); len(l) != 2 || l[0].To-l[0].From != 180 || l[1].To-l[1].From != 220 || e != api.OK {
		t.Errorf("Takes of a stretch of 400 seconds: %v, %v", l, e)
	}
}

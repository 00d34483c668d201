package floor_test

import (
	"math"
	"slices"
	"testing"

	"palantype/api"
	"palantype/floor"
)

// This file tests what DOC.md promises of each layer, for this one.

// input is what the calls are given.
type input struct {
	S       floor.Scene
	Telling []floor.Part
	Person  int
}

// output is what all calls return for it; Codes has their errors, by order.
type output struct {
	Told   []floor.Part
	Who    []floor.Told
	Breaks int
	Held   floor.Range
	Proved bool
	Codes  [5]api.Errno
}

func callAll(x input) (y output) {
	y.Codes[0] = floor.CheckScene(x.S)
	y.Told, y.Codes[1] = floor.Tell(x.S)
	y.Who, y.Codes[2] = floor.Who(x.S)
	y.Breaks, y.Codes[3] = floor.Breaks(x.S)
	y.Held, y.Codes[4] = floor.Held(x.S, x.Person)
	y.Proved = floor.ProveTelling(x.S, x.Telling)
	return y
}

// same says whether both outputs are; nil and lists of no elements are.
func same(a, b output) bool {
	return slices.Equal(a.Told, b.Told) && slices.Equal(a.Who, b.Who) && a.Breaks == b.Breaks && a.Held == b.Held && a.Proved == b.Proved && a.Codes == b.Codes
}

// strange throws a number that a caller may give by mistake, or any small one.
func (d *dice) strange() int {
	list := []int{math.MinInt, math.MinInt + 1, -1 << 32, -2, -1, 0, 1, api.MaxPersons, api.MaxPersons + 1, 15, 16, 63, 64, api.MaxTurn, api.MaxTurn + 1, 1 << 31, 1 << 32, math.MaxInt - 1, math.MaxInt}
	if d.roll(0, 1) == 0 {
		return d.roll(-2, 20)
	}
	return list[d.roll(0, len(list)-1)]
}

// numbers returns where the numbers of the input stand.
func (x *input) numbers() []*int {
	list := []*int{&x.S.Persons, &x.S.Least, &x.S.Most, &x.S.Short, &x.Person}
	for i := range x.Telling {
		list = append(list, &x.Telling[i].Holder, &x.Telling[i].Voice)
	}
	return list
}

// input throws an input that is valid, or has a strange number or set
// somewhere, or nothing but strange numbers.
func (d *dice) input() input {
	s := d.smallScene()
	x := input{S: s, Telling: d.telling(s, len(s.Moments)), Person: d.roll(0, s.Persons-1)}
	if all := tellings(s); len(all) > 0 && d.roll(0, 1) == 0 {
		x.Telling = slices.Clone(all[d.roll(0, len(all)-1)])
	}
	numbers := x.numbers()
	switch d.roll(0, 5) {
	case 0:
		*numbers[d.roll(0, len(numbers)-1)] = d.strange()
	case 1:
		for _, n := range numbers {
			*n = d.strange()
		}
	case 2:
		x.S.Moments = append(slices.Clip(x.S.Moments), moment(uint16(d.roll(0, 0xffff)), uint16(d.roll(0, 0xffff))))
	case 3:
		if d.roll(0, 9) == 0 {
			x.S.Moments = slices.Repeat([]floor.Moment{moment(3, 3)}, d.roll(30, 60))
		}
	}
	return x
}

// P1, with R2: each call returns; beside an error it returns nothing else.
func TestP1AllReturn(t *testing.T) {
	d := dice(1000)
	seen := map[api.Errno]int{}
	proved := 0
	for range 8000 {
		x := d.input()
		y := callAll(x)
		for _, e := range y.Codes {
			seen[e]++
		}
		zero := [...]bool{true, len(y.Told) == 0, len(y.Who) == 0, y.Breaks == 0, y.Held == floor.Range{}}
		for i, z := range zero {
			if y.Codes[i] != api.OK && !z {
				t.Fatalf("%v: the call %d returns %v, and more", x, i, y.Codes[i])
			}
			if y.Codes[0] != api.OK && (y.Codes[i] != y.Codes[0] || y.Proved) {
				t.Fatalf("%v: CheckScene returns %v; the others %v, %v", x, y.Codes[0], y.Codes, y.Proved)
			}
		}
		if (y.Codes[1] == api.ErrGap) != (y.Codes[3] == api.OK && y.Codes[0] == api.OK) || y.Codes[1] != y.Codes[2] {
			t.Fatalf("%v: %v", x, y.Codes)
		}
		if y.Proved {
			proved++
		}
	}
	for _, e := range []api.Errno{api.OK, api.ErrArg, api.ErrRange, api.ErrLimit, api.ErrNone, api.ErrGap} {
		if seen[e] < 50 {
			t.Errorf("%v was returned %d times", e, seen[e])
		}
	}
	if proved < 500 {
		t.Errorf("%d tellings were right", proved)
	}
}

// P1: as much as there may be of all things, from every kind of scene.
func TestP1Large(t *testing.T) {
	d := dice(1001)
	for range 100 {
		s, _ := d.largeScene()
		s.Most = api.MaxTurn
		s.Short = d.roll(0, api.MaxTurn)
		l, e := floor.Tell(s)
		if _, f := floor.Who(s); e != f || (e == api.OK) != floor.ProveTelling(s, l) {
			t.Fatalf("%v: Tell: %v, %v; Who: %v", s, l, e, f)
		}
	}
}

// R3 and R4: lists without elements are all the same, no call writes into an
// argument, what is returned is new memory, and nothing is remembered.
func TestR3R4Memory(t *testing.T) {
	d := dice(1002)
	var last input
	for range 2000 {
		x := d.input()
		kept := input{x.S, slices.Clone(x.Telling), x.Person}
		kept.S.Moments = slices.Clone(x.S.Moments)
		unchanged := func() bool {
			return slices.Equal(x.S.Moments, kept.S.Moments) && slices.Equal(x.Telling, kept.Telling)
		}
		y := callAll(x)
		if !unchanged() {
			t.Fatalf("%v has become %v", kept, x)
		}
		want := y
		want.Told, want.Who = slices.Clone(y.Told), slices.Clone(y.Who)
		callAll(last)
		emptied := input{x.S, append([]floor.Part{}, x.Telling...), x.Person}
		emptied.S.Moments = append([]floor.Moment{}, x.S.Moments...)
		if z := callAll(emptied); !same(z, want) {
			t.Fatalf("%v: %v, and then %v", x, want, z)
		}
		for i := range y.Told {
			y.Told[i] = floor.Part{Holder: -7, Voice: -7}
		}
		for i := range y.Who {
			y.Who[i] = floor.Told{Floor: 0x7777, Heard: 0x7777}
		}
		if !unchanged() {
			t.Fatalf("what is returned for %v has memory of it", kept)
		}
		if z := callAll(x); !same(z, want) {
			t.Fatalf("%v: %v, and then %v", x, want, z)
		}
		last = x
	}
}

// P3: whoever truly spoke is among those whom Who names, and whom it names
// alone, it was.
func TestP3Whoever(t *testing.T) {
	d := dice(1003)
	var all, alone int
	for range 150 {
		s, l := d.largeScene()
		if l == nil {
			continue
		}
		if !isRight(s, l) || !floor.ProveTelling(s, l) {
			t.Fatalf("%v is not right for %v", l, s)
		}
		w, e := floor.Who(s)
		if e != api.OK || !keepsTo(l, w) {
			t.Fatalf("Who of %v: %v, %v, but %v was so", s, w, e, l)
		}
		for i, p := range l {
			all++
			if w[i].Floor&(w[i].Floor-1) == 0 {
				alone++
				if w[i].Floor != setOf(p.Holder) {
					t.Fatalf("Who of %v: %v, but %v was so", s, w, l)
				}
			}
		}
		for person := range s.Persons {
			if r, e := floor.Held(s, person); e != api.OK || holds(l, person) < r.Lo || holds(l, person) > r.Hi {
				t.Fatalf("Held by %d of %v: %v, %v, but %v was so", person, s, r, e, l)
			}
		}
	}
	if all < 1000 || alone < 300 {
		t.Errorf("%d moments, and %d holders who are named alone", all, alone)
	}
}

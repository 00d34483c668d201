package floor_test

import (
	"math"
	"slices"
	"testing"

	"palantype/api"
	"palantype/floor"
)

// compare holds what Who, Breaks and Held return against the answer.
func compare(t *testing.T, s floor.Scene, want answer) {
	t.Helper()
	w, e := floor.Who(s)
	k, f := floor.Breaks(s)
	if want.broken {
		if len(w) != 0 || e != api.ErrGap || k != want.breaks || f != api.OK {
			t.Fatalf("%v: Who: %v, %v; Breaks: %d, %v, not %d", s, w, e, k, f, want.breaks)
		}
	} else if !slices.Equal(w, want.who) || e != api.OK || k != 0 || f != api.ErrNone {
		t.Fatalf("%v: Who: %v, %v, not %v; Breaks: %d, %v", s, w, e, want.who, k, f)
	}
	for person := range s.Persons {
		r, e := floor.Held(s, person)
		if want.broken && (r != floor.Range{} || e != api.ErrGap) || !want.broken && (r != want.held[person] || e != api.OK) {
			t.Fatalf("%v: Held by %d: %v, %v, not as in %v", s, person, r, e, want)
		}
	}
}

// P2.2, P2.3, P2.4: all tellings of small scenes are tried.
func TestP2_2P2_3P2_4SmallScenes(t *testing.T) {
	d := dice(3)
	var broken, late, told, open int
	for range 6000 {
		s := d.smallScene()
		want := answerOf(s)
		compare(t, s, want)
		switch {
		case want.broken && want.breaks > 1:
			late++
			fallthrough
		case want.broken:
			broken++
		default:
			told++
			open += len(slices.DeleteFunc(want.who, one))
		}
	}
	// The inputs are worth it only if there are enough of each kind.
	if broken < 800 || late < 300 || told < 3000 || open < 3000 {
		t.Errorf("%d scenes break, %d of them late; %d can be told, %d moments in more than one way", broken, late, told, open)
	}
}

// one says whether the sets have one each.
func one(x floor.Told) bool { return len(list(x.Floor)) == 1 && len(list(x.Heard)) == 1 }

// P2.2, P2.3, P2.4: scenes of any size, turn by turn.
func TestP2_2P2_3P2_4LargeScenes(t *testing.T) {
	d := dice(4)
	var broken, told int
	for range 150 {
		s, _ := d.largeScene()
		want := answerByTurns(s)
		compare(t, s, want)
		if want.broken {
			broken++
		} else {
			told++
		}
	}
	if broken < 15 || told < 50 {
		t.Errorf("%d scenes break, %d can be told", broken, told)
	}
	// As many as there may be of each thing.
	all := moment(0x8fff, 0x8fff)
	for _, s := range []floor.Scene{bare(12, 1, 20, 20), bare(12, 20, 20, 20), bare(12, 1, 1, 0), bare(12, 7, 13, 2), bare(1, 1, 20, 20)} {
		s.Moments = slices.Repeat([]floor.Moment{all}, api.MaxMoments)
		if s.Persons == 1 {
			s.Moments = slices.Repeat([]floor.Moment{moment(1|n, 1|n)}, api.MaxMoments)
		}
		compare(t, s, answerByTurns(s))
	}
}

// Both ways to answer say the same of small scenes.
func TestP2_2OraclesAgree(t *testing.T) {
	d := dice(5)
	for range 1500 {
		s := d.smallScene()
		a, b := answerOf(s), answerByTurns(s)
		if a.broken != b.broken || a.breaks != b.breaks || !slices.Equal(a.who, b.who) || !slices.Equal(a.held, b.held) {
			t.Fatalf("%v: %v, and %v", s, a, b)
		}
	}
}

// P2.2
func TestP2_2Who(t *testing.T) {
	told := func(sets ...uint16) []floor.Told {
		var l []floor.Told
		for pair := range slices.Chunk(sets, 2) {
			l = append(l, floor.Told{Floor: pair[0], Heard: pair[1]})
		}
		return l
	}
	some := moment(3, 3)
	for _, x := range []struct {
		s    floor.Scene
		want []floor.Told
	}{
		{example(), told(1, 1, 1, 4, 1, 1, 2|n, 2|n, 2, 6)},
		{bare(3, 1, 1, 0), nil},
		{with(bare(2, 1, 1, 0), some), told(3, 3)},
		{with(bare(2, 1, 1, 0), moment(3|n, 3|n)), told(3|n, 3|n)},
		// Nobody has the floor only where nobody is heard, and who begins a
		// turn is heard.
		{with(bare(2, 1, 1, 0), moment(3|n, 3)), told(3, 3)}, {with(bare(2, 1, 1, 0), moment(3|n, 2)), told(2, 2)}, {with(bare(2, 1, 1, 0), moment(3|n, n)), told(n, n)},
		// The turn 0 is as long as it may be.
		{with(bare(2, 1, 2, 0), moment(1, 1), moment(1, 1), some), told(1, 1, 1, 1, 2, 2)}, {with(bare(2, 1, 3, 0), moment(1, 1), moment(1, 1), some), told(1, 1, 1, 1, 3, 3)},
		// It is as short as it may be; the end cuts it off.
		{with(bare(2, 3, 3, 0), moment(1, 1), some, some, moment(2, 2)), told(1, 1, 1, 1, 1, 1, 2, 2)}, {with(bare(2, 3, 3, 0), moment(1, 1), some, some), told(1, 1, 1, 1, 1, 1)}, {with(bare(2, 2, 3, 0), moment(1, 1), some, some), told(1, 1, 1, 1, 3, 3)},
		// An interjection, and the last word of a turn; at the end none is due.
		{with(bare(2, 1, 4, 1), moment(1, 1), moment(1, 3), moment(1, 3), moment(2, 2)), told(1, 1, 1, 3, 1, 1, 2, 2)}, {with(bare(2, 1, 4, 1), moment(1, 1), moment(1, 3), moment(1, 3)), told(1, 1, 1, 3, 1, 3)}, {with(bare(2, 1, 4, 0), moment(1, 1), moment(1, 3), moment(1, 3)), told(1, 1, 1, 1, 1, 1)},
		{with(bare(2, 1, 4, 1), moment(1, 1), moment(1, 2), moment(1, 3)), told(1, 1, 1, 2, 1, 1)}, {with(bare(2, 1, 4, 2), moment(1, 1), moment(1, 2), moment(1, 3)), told(1, 1, 1, 2, 1, 3)}, {with(bare(2, 1, 4, 1), moment(1, 1), moment(1, 2), moment(1, 2|n), moment(1, 2)), told(1, 1, 1, 2, 1, n, 1, 2)},
		// Two persons interrupt: one interjection.
		{with(bare(3, 1, 4, 2), moment(1, 1), moment(1, 2), moment(1, 4), moment(1, 7)), told(1, 1, 1, 2, 1, 4, 1, 1)}, {with(bare(3, 1, 4, 3), moment(1, 1), moment(1, 6), moment(1, 4), moment(1, 6)), told(1, 1, 1, 6, 1, 4, 1, 6)},
		// Nobody takes the floor between two turns of one person.
		{with(bare(1, 1, 1, 0), moment(1, 1), moment(1|n, 1|n), moment(1, 1)), told(1, 1, n, n, 1, 1)},
		// Example 2 of the document.
		{with(bare(3, 1, 3, 1), some, moment(3, 4)), told(3, 3, 3, 4)}, {with(bare(3, 1, 3, 1), some, moment(3, 4), moment(3, 1)), told(1, 1, 1, 4, 1, 1)},
	} {
		if w, e := floor.Who(x.s); !slices.Equal(w, x.want) || e != api.OK {
			t.Errorf("Who of %v: %v, %v, not %v", x.s, w, e, x.want)
		}
	}
	for _, s := range broken() {
		if w, e := floor.Who(s); len(w) != 0 || e != api.ErrGap {
			t.Errorf("Who of %v: %v, %v", s, w, e)
		}
	}
}

// P2.3
func TestP2_3Breaks(t *testing.T) {
	cut := example()
	cut.Moments[4].Floor = 1
	some, first, second := moment(3, 3), moment(1, 1), moment(2, 2)
	for _, x := range []struct {
		s    floor.Scene
		want int
		e    api.Errno
	}{
		{example(), 0, api.ErrNone}, {cut, 4, api.OK}, {bare(1, 1, 1, 0), 0, api.ErrNone}, {long(api.MaxMoments), 0, api.ErrNone},
		// At the first moment, and at the last one there may be.
		{with(bare(1, 1, 1, 0), moment(0, 1)), 0, api.OK}, {with(bare(1, 1, 1, 0), moment(1, 0)), 0, api.OK}, {with(bare(2, 1, 1, 0), moment(1, 2)), 0, api.OK}, {with(bare(2, 1, 1, 1), moment(1, 2)), 0, api.OK}, {with(bare(1, 1, 1, 0), moment(n, 1)), 0, api.OK},
		{with(bare(1, 1, 1, 0), append(long(39).Moments, moment(0, n))...), 39, api.OK}, {with(bare(1, 1, 1, 0), append([]floor.Moment{moment(0, n)}, long(39).Moments...)...), 0, api.OK},
		// A turn is too long, or too short.
		{with(bare(2, 1, 2, 0), first, first, some, first), 0, api.ErrNone}, {with(bare(2, 1, 2, 0), first, first, first, some), 2, api.OK}, {with(bare(2, 2, 2, 0), first, second, second), 1, api.OK}, {with(bare(2, 2, 2, 0), first, moment(n, n)), 1, api.OK}, {with(bare(2, 2, 2, 0), first, first, second, first), 3, api.OK}, {with(bare(2, 2, 2, 0), first, first, second), 0, api.ErrNone},
		// The last word is another's, or nobody's: seen only when the turn ends.
		{with(bare(2, 1, 2, 1), first, moment(1, 2)), 0, api.ErrNone}, {with(bare(2, 1, 2, 1), first, moment(1, 2), second), 2, api.OK}, {with(bare(2, 1, 2, 1), first, moment(1, n), second), 2, api.OK}, {with(bare(2, 1, 3, 1), first, moment(1, n), first, second), 0, api.ErrNone}, {with(bare(2, 1, 2, 1), first, moment(1, n), moment(n, n)), 2, api.OK},
		// An interjection is too long.
		{with(bare(2, 1, 9, 2), first, moment(1, 2), moment(1, 2)), 0, api.ErrNone}, {with(bare(2, 1, 9, 1), first, moment(1, 2), moment(1, 2)), 2, api.OK}, {with(bare(3, 1, 9, 1), first, moment(1, 2), moment(1, 4)), 2, api.OK}, {with(bare(2, 1, 9, 0), first, moment(1, 2), moment(1, 2)), 1, api.OK},
	} {
		if k, e := floor.Breaks(x.s); k != x.want || e != x.e {
			t.Errorf("Breaks of %v: %d, %v, not %d, %v", x.s, k, e, x.want, x.e)
		}
	}
}

// P2.4
func TestP2_4Held(t *testing.T) {
	some, either := moment(3, 3), moment(3|n, 3|n)
	for _, x := range []struct {
		s    floor.Scene
		want []floor.Range
	}{
		{example(), []floor.Range{{Lo: 3, Hi: 3}, {Lo: 1, Hi: 2}, {}}},
		{bare(3, 1, 1, 0), make([]floor.Range, 3)},
		{long(api.MaxMoments), make([]floor.Range, 1)},
		{with(bare(2, 1, 2, 0), some, some, some), []floor.Range{{Lo: 1, Hi: 2}, {Lo: 1, Hi: 2}}},
		{with(bare(2, 2, 2, 0), some, some, some), []floor.Range{{Lo: 1, Hi: 2}, {Lo: 1, Hi: 2}}},
		{with(bare(2, 1, 1, 0), some), []floor.Range{{Hi: 1}, {Hi: 1}}},
		{with(bare(2, 1, 1, 0), either, either, either, either, either), []floor.Range{{Hi: 3}, {Hi: 3}}},
		{with(bare(1, 1, 20, 0), slices.Repeat([]floor.Moment{moment(1|n, 1|n)}, 40)...), []floor.Range{{Hi: 39}}},
	} {
		for person, want := range x.want {
			if r, e := floor.Held(x.s, person); r != want || e != api.OK {
				t.Errorf("Held by %d of %v: %v, %v, not %v", person, x.s, r, e, want)
			}
		}
	}
	cut := broken()[0]
	for _, s := range []floor.Scene{example(), cut, bare(3, 1, 1, 0)} {
		for _, person := range []int{-1, 3, 12, 15, math.MaxInt, math.MinInt} {
			if r, e := floor.Held(s, person); r != (floor.Range{}) || e != api.ErrRange {
				t.Errorf("Held by %d of %v: %v, %v", person, s, r, e)
			}
		}
	}
	for _, s := range broken() {
		if r, e := floor.Held(s, 0); r != (floor.Range{}) || e != api.ErrGap {
			t.Errorf("Held of %v: %v, %v", s, r, e)
		}
	}
}

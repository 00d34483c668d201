package floor_test

import (
	"cmp"
	"math"
	"slices"
	"testing"

	"palantype/api"
	"palantype/floor"
)

// bare is a scene without moments.
func bare(persons, least, most, short int) floor.Scene {
	return floor.Scene{Persons: persons, Least: least, Most: most, Short: short}
}

func with(s floor.Scene, moments ...floor.Moment) floor.Scene {
	s.Moments = moments
	return s
}

// long is a scene of so many moments of nobody.
func long(moments int) floor.Scene {
	return with(bare(1, 1, 1, 0), slices.Repeat([]floor.Moment{moment(n, n)}, moments)...)
}

// refused are scenes that are refused, with the error that each call returns.
func refused() []struct {
	s    floor.Scene
	want api.Errno
} {
	two := bare(2, 1, 2, 1)
	fine := moment(3|n, 3|n)
	return []struct {
		s    floor.Scene
		want api.Errno
	}{
		{floor.Scene{}, api.ErrArg},
		// The persons.
		{bare(0, 1, 1, 0), api.ErrArg}, {bare(-1, 1, 1, 0), api.ErrArg}, {bare(api.MaxPersons+1, 1, 1, 0), api.ErrArg}, {bare(math.MaxInt, 1, 1, 0), api.ErrArg}, {bare(math.MinInt, 1, 1, 0), api.ErrArg}, {with(bare(16, 1, 1, 0), fine), api.ErrArg}, {with(bare(64, 1, 1, 0), fine), api.ErrArg},
		// The bounds.
		{bare(1, 0, 1, 0), api.ErrArg}, {bare(1, 0, 0, 0), api.ErrArg}, {bare(1, -1, 1, 0), api.ErrArg}, {bare(1, 2, 1, 0), api.ErrArg}, {bare(1, math.MinInt, 1, 0), api.ErrArg}, {bare(1, math.MaxInt, 1, 0), api.ErrArg},
		{bare(1, 1, 0, 0), api.ErrArg}, {bare(1, 1, api.MaxTurn+1, 0), api.ErrArg}, {bare(1, api.MaxTurn+1, api.MaxTurn+1, 0), api.ErrArg}, {bare(1, 1, math.MaxInt, 0), api.ErrArg}, {bare(1, -2, -1, 0), api.ErrArg},
		{bare(1, 1, 1, -1), api.ErrArg}, {bare(1, 1, 1, api.MaxTurn+1), api.ErrArg}, {bare(1, 1, 1, math.MaxInt), api.ErrArg}, {bare(1, 1, 1, math.MinInt), api.ErrArg},
		// The sets.
		{with(two, moment(4, 1)), api.ErrArg}, {with(two, moment(1, 4)), api.ErrArg}, {with(two, moment(1<<14, 1)), api.ErrArg}, {with(two, moment(1, 1<<14|n)), api.ErrArg}, {with(two, moment(0xffff, 0xffff)), api.ErrArg},
		{with(bare(12, 1, 2, 1), moment(1<<12, 1)), api.ErrArg}, {with(bare(11, 1, 2, 1), moment(1, 1<<11)), api.ErrArg},
		{with(two, fine, fine, moment(3, 7)), api.ErrArg}, {with(two, moment(7, 3), fine), api.ErrArg}, {with(two, fine, moment(1<<13, 3), fine), api.ErrArg},
		// What breaks, too.
		{with(two, moment(0, 0), moment(4, 4)), api.ErrArg},
		// The number of moments is asked ahead of all else.
		{long(api.MaxMoments + 1), api.ErrLimit}, {with(bare(0, 0, -1, -1), slices.Repeat([]floor.Moment{moment(0xffff, 0)}, api.MaxMoments+1)...), api.ErrLimit}, {with(bare(0, 1, 1, 0), make([]floor.Moment, 1000)...), api.ErrLimit},
		{with(bare(0, 1, 1, 0), long(api.MaxMoments).Moments...), api.ErrArg},
	}
}

// P2.1
func TestP2_1CheckScene(t *testing.T) {
	for _, s := range []floor.Scene{
		example(), bare(1, 1, 1, 0), bare(api.MaxPersons, api.MaxTurn, api.MaxTurn, api.MaxTurn), bare(1, 1, api.MaxTurn, 0), with(bare(1, 1, 1, 0), []floor.Moment{}...),
		long(api.MaxMoments), with(bare(12, 1, 1, 0), moment(0x8fff, 0x8fff)), with(bare(1, 1, 1, 0), moment(1|n, n|1)),
		// A set may be empty; then the scene breaks.
		with(bare(1, 1, 1, 0), moment(0, 0)), with(bare(2, 1, 1, 0), moment(3, 3), moment(3, 0), moment(0, 3)),
	} {
		if e := floor.CheckScene(s); e != api.OK {
			t.Errorf("CheckScene of %v: %v", s, e)
		}
	}
	for _, x := range refused() {
		if e := floor.CheckScene(x.s); e != x.want {
			t.Errorf("CheckScene of %v: %v, not %v", x.s, e, x.want)
		}
	}
}

// The scene is asked ahead of all else that a call is given.
func TestP2_1Refused(t *testing.T) {
	for _, x := range refused() {
		if l, e := floor.Tell(x.s); len(l) != 0 || e != x.want {
			t.Errorf("Tell of %v: %v, %v, not %v", x.s, l, e, x.want)
		}
		if l, e := floor.Who(x.s); len(l) != 0 || e != x.want {
			t.Errorf("Who of %v: %v, %v, not %v", x.s, l, e, x.want)
		}
		if k, e := floor.Breaks(x.s); k != 0 || e != x.want {
			t.Errorf("Breaks of %v: %d, %v, not %v", x.s, k, e, x.want)
		}
		for _, person := range []int{-1, 0, 99} {
			if r, e := floor.Held(x.s, person); r != (floor.Range{}) || e != x.want {
				t.Errorf("Held by %d of %v: %v, %v, not %v", person, x.s, r, e, x.want)
			}
		}
		nobodys := slices.Repeat(parts(-1, -1), len(x.s.Moments))
		if floor.ProveTelling(x.s, nil) || floor.ProveTelling(x.s, nobodys) || floor.ProveTelling(x.s, make([]floor.Part, len(x.s.Moments))) {
			t.Errorf("ProveTelling of %v is true", x.s)
		}
	}
}

// P2.1
func TestP2_1Tell(t *testing.T) {
	open := moment(3|n, 3|n)
	for _, s := range []floor.Scene{
		example(), bare(1, 1, 1, 0), long(1), long(api.MaxMoments),
		with(bare(2, 2, 2, 0), open, open, open, open, open),
		with(bare(1, 3, 3, 0), moment(1, 1|n), moment(1, 1|n), moment(1, 1|n), moment(n, n)),
		with(bare(2, 1, 3, 1), moment(3, 3), moment(1, 2), moment(3, 3)),
	} {
		if l, e := floor.Tell(s); e != api.OK || !isRight(s, l) {
			t.Errorf("Tell of %v: %v, %v", s, l, e)
		}
	}
	for _, s := range broken() {
		if l, e := floor.Tell(s); len(l) != 0 || e != api.ErrGap {
			t.Errorf("Tell of %v: %v, %v", s, l, e)
		}
	}
	d := dice(1)
	told := 0
	for range 3000 {
		s := d.smallScene()
		l, e := floor.Tell(s)
		all := tellings(s)
		if len(all) == 0 {
			if len(l) != 0 || e != api.ErrGap {
				t.Fatalf("Tell of %v: %v, %v", s, l, e)
			}
			continue
		}
		told++
		// Any right one would do; that it is the least one is the package's.
		if least := slices.MinFunc(all, byParts); !slices.Equal(l, least) || e != api.OK {
			t.Fatalf("Tell of %v: %v, %v, not %v", s, l, e, least)
		}
	}
	if told < 1000 || told > 2900 {
		t.Errorf("%d scenes of 3000 were told", told)
	}
}

// byParts compares tellings moment by moment, with -1 behind all persons.
func byParts(a, b []floor.Part) int {
	return slices.CompareFunc(a, b, func(p, q floor.Part) int {
		return cmp.Or(cmp.Compare(uint(p.Holder), uint(q.Holder)), cmp.Compare(uint(p.Voice), uint(q.Voice)))
	})
}

// broken are valid scenes that cannot be told.
func broken() []floor.Scene {
	cut := example()
	cut.Moments[4].Floor = 1
	return []floor.Scene{
		cut, with(bare(1, 1, 1, 0), moment(0, 0)), with(bare(1, 1, 1, 0), moment(1, 0)), with(bare(1, 1, 1, 0), moment(0, 1|n)),
		with(bare(1, 1, 1, 0), moment(1, n)), with(bare(1, 1, 1, 0), moment(n, 1)), with(bare(1, 1, 1, 0), moment(1, 1), moment(1, 1)),
	}
}

// P2.1
func TestP2_1ProveTelling(t *testing.T) {
	open := moment(7|n, 7|n)
	s := with(bare(3, 2, 4, 2), open, open, open, open, open)
	for _, x := range []struct {
		telling []floor.Part
		want    bool
	}{
		{parts(0, 0, 0, 0, 1, 1, 1, 1, 2, 2), true},
		// Who is not in a set, or does not exist.
		{parts(0, 0, 0, 0, 1, 1, 1, 1, 3, 3), false}, {parts(0, 0, 0, 3, 0, 0, 1, 1, 1, 1), false}, {parts(0, 0, 0, -2, 0, 0, 1, 1, 1, 1), false}, {parts(-2, -2, -1, -1, -1, -1, -1, -1, -1, -1), false},
		{parts(15, 15, 15, 15, 0, 0, 0, 0, 1, 1), false}, {parts(0, 0, 0, 15, 0, 0, 1, 1, 1, 1), false}, {parts(64, 64, 64, 64, 1, 1, 1, 1, 2, 2), false}, {parts(math.MaxInt, math.MaxInt, 0, 0, 0, 0, 1, 1, 1, 1), false}, {parts(math.MinInt, math.MinInt, 0, 0, 0, 0, 1, 1, 1, 1), false},
		// Nobody has the floor, and somebody is heard.
		{parts(-1, -1, -1, -1, -1, -1, -1, -1, -1, -1), true}, {parts(-1, -1, -1, 0, -1, -1, -1, -1, -1, -1), false}, {parts(0, 0, 0, 0, -1, 0, -1, -1, -1, -1), false}, {parts(-1, -1, -1, -1, -1, -1, -1, -1, -1, 2), false},
		// Turns that are too long, or too short; one that is cut off.
		{parts(0, 0, 0, 0, 0, 0, 0, 0, 1, 1), true}, {parts(0, 0, 0, 0, 0, 0, 0, 0, 0, 0), false}, {parts(0, 0, 1, 1, 1, 1, 1, 1, 1, 1), false}, {parts(0, 0, -1, -1, -1, -1, 1, 1, 1, 1), false}, {parts(0, 0, 0, 0, 1, 1, 2, 2, 2, 2), false}, {parts(-1, -1, 0, 0, -1, -1, 0, 0, 0, 0), false}, {parts(-1, -1, -1, -1, -1, -1, -1, -1, 0, 0), true},
		// Two turns of one person, with nobody between them.
		{parts(0, 0, 0, 0, -1, -1, 0, 0, 0, 0), true},
		// The first moment of a turn, and its last one, if that is not the last
		// one of all.
		{parts(0, 1, 0, 0, 0, 0, 1, 1, 1, 1), false}, {parts(0, -1, 0, 0, 0, 0, 1, 1, 1, 1), false}, {parts(0, 0, 0, 0, 0, 1, 1, 1, 1, 1), false}, {parts(0, 0, 0, 0, 0, -1, 1, 1, 1, 1), false}, {parts(0, 0, 0, 0, 0, -1, -1, -1, -1, -1), false}, {parts(0, 0, 0, 0, 1, 0, 1, 1, 1, 1), false}, {parts(-1, -1, 0, 1, 0, 0, 1, 1, 1, 1), false},
		{parts(0, 0, 0, 0, 0, 0, 1, 1, 1, 0), true}, {parts(0, 0, 0, 0, 0, 0, 1, 1, 1, -1), true}, {parts(0, 0, 0, 0, 1, 1, 1, 0, 1, 2), true}, {parts(0, 0, 0, 0, 1, 1, 1, 1, 2, 1), false}, {parts(0, 0, 0, 0, 1, 1, 1, 1, 2, -1), false}, {parts(-1, -1, -1, -1, -1, -1, -1, -1, 0, 1), false},
		// Interjections: of one voice, of two, and with a silence between them.
		{parts(0, 0, 0, 1, 0, 1, 0, 0, 1, 1), true}, {parts(0, 0, 0, 1, 0, 2, 0, 0, 1, 1), true}, {parts(-1, -1, 0, 0, 0, 1, 0, 2, 0, 1), false}, {parts(-1, -1, 0, 0, 0, 1, 0, -1, 0, 1), true}, {parts(-1, -1, 0, 0, 0, 1, 0, 1, 0, 1), false},
		// As many parts as moments.
		{nil, false}, {parts(0, 0, 0, 0, 1, 1, 1, 1), false}, {parts(0, 0, 0, 0, 1, 1, 1, 1, 2, 2, 2, 2), false},
	} {
		if isRight(s, x.telling) != x.want {
			t.Errorf("%v is right: not %v", x.telling, x.want)
		}
		if floor.ProveTelling(s, x.telling) != x.want {
			t.Errorf("ProveTelling of %v: not %v", x.telling, x.want)
		}
	}
	if empty := bare(1, 1, 1, 0); !floor.ProveTelling(empty, nil) || !floor.ProveTelling(empty, []floor.Part{}) || floor.ProveTelling(empty, parts(-1, -1)) {
		t.Error("ProveTelling of no moments")
	}
	if floor.ProveTelling(with(bare(2, 1, 1, 0), moment(2|n, 3|n)), parts(0, 0)) || floor.ProveTelling(with(bare(2, 1, 1, 0), moment(3, 2|n)), parts(0, 0)) || floor.ProveTelling(with(bare(2, 1, 1, 0), moment(3, 3)), parts(-1, -1)) {
		t.Error("ProveTelling of who is not in a set")
	}
}

// P2.1
func TestP2_1AllLists(t *testing.T) {
	d := dice(2)
	var right, wrong int
	for range 400 {
		s := d.smallScene()
		anything := slices.Repeat([]floor.Moment{moment(3|n, 3|n)}, min(len(s.Moments), 3))
		lists := append(choices(s.Moments), choices(anything)...)
		for _, l := range lists {
			want := isRight(s, l)
			if want {
				right++
			} else {
				wrong++
			}
			if floor.ProveTelling(s, l) != want {
				t.Fatalf("ProveTelling of %v, %v is not %v", s, l, want)
			}
		}
	}
	if right < 1000 || wrong < 10000 {
		t.Errorf("%d right lists, %d others", right, wrong)
	}
}

package take_test

import (
	"math"
	"slices"
	"testing"

	"palantype/api"
	"palantype/take"
)

// stripes returns a sitting of so many stretches, of a second each.
func stripes(n int) take.Sitting {
	s := take.Sitting{Length: 2*n - 1, Long: 5, Short: 3}
	for i := range n - 1 {
		s.Pauses = append(s.Pauses, span(2*i+1, 2*i+2))
	}
	return s
}

func plain(length, long, short int) take.Sitting {
	return take.Sitting{Length: length, Long: long, Short: short}
}

func with(s take.Sitting, pauses ...take.Span) take.Sitting {
	s.Pauses = pauses
	return s
}

// P1.1
func TestP1_1CheckSitting(t *testing.T) {
	ten := plain(10, 4, 2)
	for _, x := range []struct {
		s    take.Sitting
		want api.Errno
	}{
		{sitting(), api.OK},
		{take.Sitting{}, api.ErrArg},
		// Its length.
		{plain(1, 4, 2), api.OK}, {plain(0, 4, 2), api.ErrArg}, {plain(-1, 4, 2), api.ErrArg},
		{plain(api.MaxLength, 1000, 60), api.OK}, {plain(api.MaxLength+1, 1000, 60), api.ErrArg}, {plain(math.MinInt, 4, 2), api.ErrArg}, {plain(math.MaxInt, 4, 2), api.ErrArg},
		// Its takes' lengths.
		{plain(10, 1, 1), api.OK}, {plain(10, 0, 0), api.ErrArg}, {plain(10, 4, 0), api.ErrArg}, {plain(10, 0, 1), api.ErrArg}, {plain(10, -1, -1), api.ErrArg}, {plain(10, 4, -1), api.ErrArg},
		{plain(10, api.MaxLong, 1), api.OK}, {plain(10, api.MaxLong, api.MaxLong), api.OK}, {plain(10, api.MaxLong+1, 1), api.ErrArg}, {plain(10, math.MaxInt, 1), api.ErrArg},
		{plain(10, 4, 4), api.OK}, {plain(10, 4, 5), api.ErrArg}, {plain(10, 4, math.MaxInt), api.ErrArg},
		// Its pauses.
		{with(ten, span(0, 10)), api.OK}, {with(ten, span(0, 1), span(2, 3), span(9, 10)), api.OK},
		{with(ten, span(-1, 3)), api.ErrArg}, {with(ten, span(3, 3)), api.ErrArg}, {with(ten, span(4, 3)), api.ErrArg}, {with(ten, span(5, 11)), api.ErrArg}, {with(ten, span(11, 12)), api.ErrArg},
		{with(ten, span(1, 3), span(3, 4)), api.ErrArg}, {with(ten, span(1, 3), span(2, 4)), api.ErrArg}, {with(ten, span(5, 6), span(1, 2)), api.ErrArg}, {with(ten, span(1, 3), span(4, 5)), api.OK},
		{with(ten, span(1, 2), span(3, 4), span(4, 5)), api.ErrArg}, {with(ten, span(1, 2), span(7, 8), span(4, 5)), api.ErrArg},
		{with(ten, span(math.MinInt, math.MaxInt)), api.ErrArg}, {with(ten, span(1, math.MaxInt)), api.ErrArg}, {with(ten, span(math.MinInt, 1)), api.ErrArg},
		// The number of its takes.
		{plain(api.MaxTakes, 1, 1), api.OK}, {plain(api.MaxTakes+1, 1, 1), api.ErrLimit}, {plain(api.MaxLength, 1, 1), api.ErrLimit},
		{plain(81, 2, 2), api.OK}, {plain(81, 2, 1), api.ErrLimit}, {plain(82, 2, 2), api.ErrLimit},
		{stripes(api.MaxTakes), api.OK}, {stripes(api.MaxTakes + 1), api.ErrLimit},
		// What is not valid comes first.
		{plain(api.MaxTakes+1, 1, 2), api.ErrArg}, {with(plain(100, 1, 1), span(60, 60)), api.ErrArg}, {with(plain(100, 1, 1), span(90, 101)), api.ErrArg},
	} {
		if e := take.CheckSitting(x.s); e != x.want {
			t.Errorf("CheckSitting of %v: %v, not %v", x.s, e, x.want)
		}
		if l, e := take.Takes(x.s); e != x.want || e != api.OK && len(l) != 0 {
			t.Errorf("Takes of %v: %v, %v, not %v", x.s, l, e, x.want)
		}
		if x.want != api.OK {
			if n, e := take.At(x.s, -1); n != 0 || e != x.want {
				t.Errorf("At, of %v: %d, %v, not %v", x.s, n, e, x.want)
			}
		}
	}
}

// P1.1
func TestP1_1CheckOffice(t *testing.T) {
	crew := func(l ...take.Reporter) take.Office { return take.Office{Crew: l} }
	for _, x := range []struct {
		o    take.Office
		want api.Errno
	}{
		{office(), api.OK},
		{crew(), api.ErrArg}, {take.Office{Crew: []take.Reporter{}}, api.ErrArg},
		{crew(make([]take.Reporter, 1)...), api.OK}, {crew(make([]take.Reporter, api.MaxCrew)...), api.OK}, {crew(make([]take.Reporter, api.MaxCrew+1)...), api.ErrArg},
		{take.Office{Crew: make([]take.Reporter, 1), Due: api.MaxDue, Delay: api.MaxDue}, api.OK},
		{take.Office{Crew: make([]take.Reporter, 1), Due: api.MaxDue + 1}, api.ErrArg}, {take.Office{Crew: make([]take.Reporter, 1), Due: -1}, api.ErrArg},
		{take.Office{Crew: make([]take.Reporter, 1), Delay: api.MaxDue + 1}, api.ErrArg}, {take.Office{Crew: make([]take.Reporter, 1), Delay: -1}, api.ErrArg},
		{crew(take.Reporter{Slow: slow(0, 0)}), api.OK}, {crew(take.Reporter{Slow: slow(0, api.MaxSlow)}), api.OK}, {crew(take.Reporter{Slow: slow(api.MaxSlow, api.MaxSlow)}), api.OK},
		{crew(take.Reporter{Slow: slow(-1, 0)}), api.ErrArg}, {crew(take.Reporter{Slow: slow(2, 1)}), api.ErrArg}, {crew(take.Reporter{Slow: slow(0, api.MaxSlow+1)}), api.ErrArg}, {crew(take.Reporter{Slow: slow(api.MaxSlow+1, api.MaxSlow)}), api.ErrArg},
		{crew(take.Reporter{Slow: slow(math.MinInt, math.MaxInt)}), api.ErrArg}, {crew(take.Reporter{Slow: slow(-2, -1)}), api.ErrArg},
		{crew(take.Reporter{Rest: api.MaxDue}), api.OK}, {crew(take.Reporter{Rest: api.MaxDue + 1}), api.ErrArg}, {crew(take.Reporter{Rest: -1}), api.ErrArg},
		{crew(take.Reporter{}, take.Reporter{}, take.Reporter{Rest: -1}), api.ErrArg}, {crew(take.Reporter{}, take.Reporter{Slow: slow(2, 1)}, take.Reporter{}), api.ErrArg},
	} {
		if e := take.CheckOffice(x.o); e != x.want {
			t.Errorf("CheckOffice of %v: %v, not %v", x.o, e, x.want)
		}
	}
}

// P1.1
func TestP1_1Takes(t *testing.T) {
	for _, x := range []struct {
		s    take.Sitting
		want []take.Span
	}{
		{sitting(), []take.Span{span(0, 180), span(180, 400), span(500, 680), span(680, 860), span(860, 1000)}},
		{plain(400, 180, 60), []take.Span{span(0, 180), span(180, 400)}},
		// What is left is just enough for a take, or a second too short.
		{plain(13, 10, 3), []take.Span{span(0, 10), span(10, 13)}},
		{plain(12, 10, 3), []take.Span{span(0, 12)}},
		{plain(22, 10, 3), []take.Span{span(0, 10), span(10, 22)}},
		{plain(20, 10, 3), []take.Span{span(0, 10), span(10, 20)}},
		{plain(20, 10, 10), []take.Span{span(0, 10), span(10, 20)}},
		{plain(19, 10, 10), []take.Span{span(0, 19)}},
		// A stretch is too short: a take by itself.
		{plain(2, 10, 3), []take.Span{span(0, 2)}},
		{with(plain(24, 10, 3), span(2, 3), span(12, 22)), []take.Span{span(0, 2), span(3, 12), span(22, 24)}},
		{with(plain(24, 10, 3), span(10, 20)), []take.Span{span(0, 10), span(20, 24)}},
		{with(plain(24, 10, 3), span(10, 22)), []take.Span{span(0, 10), span(22, 24)}},
		// Pauses at both ends, or no stretch.
		{with(plain(20, 10, 3), span(0, 5), span(15, 20)), []take.Span{span(5, 15)}},
		{with(plain(20, 10, 3), span(0, 20)), nil},
		{plain(1, 1, 1), []take.Span{span(0, 1)}},
		{plain(3, 1, 1), []take.Span{span(0, 1), span(1, 2), span(2, 3)}},
	} {
		if l, e := take.Takes(x.s); !slices.Equal(l, x.want) || e != api.OK {
			t.Errorf("Takes of %v: %v, %v, not %v", x.s, l, e, x.want)
		}
	}
	// All short sittings, with each pause there may be.
	for length := 1; length <= 14; length++ {
		for long := 1; long <= 5; long++ {
			for short := 1; short <= long; short++ {
				compareTakes(t, plain(length, long, short))
				for from := range length {
					for to := from + 1; to <= length; to++ {
						compareTakes(t, with(plain(length, long, short), span(from, to)))
					}
				}
			}
		}
	}
	d := dice(1)
	for range 2000 {
		compareTakes(t, d.smallSitting())
	}
}

func compareTakes(t *testing.T, s take.Sitting) {
	t.Helper()
	if l, e := take.Takes(s); !slices.Equal(l, cutBySeconds(s)) || e != api.OK {
		t.Fatalf("Takes of %v: %v, %v, not %v", s, l, e, cutBySeconds(s))
	}
}

// P1.1
func TestP1_1At(t *testing.T) {
	edges := with(plain(20, 6, 3), span(0, 2), span(8, 9), span(18, 20))
	for _, x := range []struct {
		s            take.Sitting
		second, want int
		e            api.Errno
	}{
		{sitting(), 399, 1, api.OK}, {sitting(), 400, 0, api.ErrNone}, {sitting(), 499, 0, api.ErrNone}, {sitting(), 500, 2, api.OK},
		{sitting(), 0, 0, api.OK}, {sitting(), 179, 0, api.OK}, {sitting(), 180, 1, api.OK}, {sitting(), 999, 4, api.OK},
		{sitting(), -1, 0, api.ErrRange}, {sitting(), 1000, 0, api.ErrRange}, {sitting(), math.MinInt, 0, api.ErrRange}, {sitting(), math.MaxInt, 0, api.ErrRange},
		{edges, -1, 0, api.ErrRange}, {edges, 0, 0, api.ErrNone}, {edges, 1, 0, api.ErrNone}, {edges, 2, 0, api.OK}, {edges, 7, 0, api.OK}, {edges, 8, 0, api.ErrNone},
		{edges, 9, 1, api.OK}, {edges, 14, 1, api.OK}, {edges, 15, 2, api.OK}, {edges, 17, 2, api.OK}, {edges, 18, 0, api.ErrNone}, {edges, 19, 0, api.ErrNone}, {edges, 20, 0, api.ErrRange},
		{with(plain(5, 6, 3), span(0, 5)), 3, 0, api.ErrNone}, {with(plain(5, 6, 3), span(0, 5)), 5, 0, api.ErrRange},
		// The sitting is asked ahead of the second.
		{plain(5, 6, 7), 9, 0, api.ErrArg}, {plain(41, 1, 1), 41, 0, api.ErrLimit}, {with(plain(90, 1, 1), span(5, 6)), 5, 0, api.ErrLimit},
	} {
		if n, e := take.At(x.s, x.second); n != x.want || e != x.e {
			t.Errorf("At %d of %v: %d, %v, not %d, %v", x.second, x.s, n, e, x.want, x.e)
		}
	}
}

// P1.6
func TestP1_6EachSecond(t *testing.T) {
	d := dice(6)
	list := []take.Sitting{sitting(), stripes(api.MaxTakes), plain(api.MaxLength, api.MaxLong, api.MaxLong), plain(1, 1, 1), with(plain(30, 7, 7), span(0, 30))}
	for range 500 {
		list = append(list, d.smallSitting())
	}
	for _, s := range list {
		eachSecond(t, s)
	}
}

// eachSecond checks that each second which is in no pause is in one take.
func eachSecond(t *testing.T, s take.Sitting) {
	t.Helper()
	l, e := take.Takes(s)
	if e != api.OK {
		t.Fatalf("Takes of %v: %v", s, e)
	}
	for second := range s.Length {
		number, in := 0, 0
		for i, x := range l {
			if x.From <= second && second < x.To {
				number, in = i, in+1
			}
		}
		n, e := take.At(s, second)
		if inPause(s, second) {
			if in != 0 || n != 0 || e != api.ErrNone {
				t.Fatalf("the second %d of %v is in a pause, and in %d takes; At: %d, %v", second, s, in, n, e)
			}
		} else if in != 1 || n != number || e != api.OK {
			t.Fatalf("the second %d of %v is in %d takes, the last one %d; At: %d, %v", second, s, in, number, n, e)
		}
	}
	if len(l) > 0 && (l[0].From < 0 || l[len(l)-1].To > s.Length) {
		t.Fatalf("the takes of %v leave it: %v", s, l)
	}
}

// P1.7
func TestP1_7Lengths(t *testing.T) {
	d := dice(7)
	list := []take.Sitting{sitting(), plain(19, 10, 10), plain(29, 10, 10), plain(12, 10, 3), stripes(9)}
	for range 2000 {
		list = append(list, d.smallSitting())
	}
	for _, s := range list {
		l, e := take.Takes(s)
		if e != api.OK || len(l) != len(cutBySeconds(s)) {
			t.Fatalf("Takes of %v: %v, %v", s, l, e)
		}
		for _, x := range l {
			if x.To-x.From >= s.Long+s.Short {
				t.Fatalf("the take %v of %v is too long", x, s)
			}
			whole := (x.From == 0 || inPause(s, x.From-1)) && (x.To == s.Length || inPause(s, x.To))
			if x.To-x.From < s.Short && !whole {
				t.Fatalf("the take %v of %v is too short", x, s)
			}
		}
	}
}

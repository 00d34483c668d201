package take_test

import (
	"math"
	"slices"
	"testing"

	"palantype/api"
	"palantype/take"
)

// easy is a sitting of six takes of 10 seconds at an office of three reporters,
// each of them busy for 10 seconds behind a take. The rota every is right.
func easy() (s take.Sitting, o take.Office, every []int) {
	return plain(60, 10, 10), take.Office{Due: 10, Crew: []take.Reporter{{Slow: slow(0, 1)}, {Slow: slow(0, 0), Rest: 10}, {Slow: slow(1, 1)}}}, []int{2, 1, 0, 2, 1, 0}
}

// P1.5
func TestP1_5Relieve(t *testing.T) {
	rota := []int{1, 0, 2, 1, 0}
	s, o, every := easy()
	for _, x := range []struct {
		s                take.Sitting
		o                take.Office
		rota             []int
		reporter, second int
		after, open      []int
		e                api.Errno
	}{
		{sitting(), office(), rota, 2, 600, rota, []int{2}, api.OK},
		{sitting(), office(), rota, 1, 600, nil, nil, api.ErrNone},
		// From the beginning, and at the very end.
		{s, o, every, 2, 0, []int{0, 1, 0, 1, 0, 1}, nil, api.OK},
		{s, o, every, 2, 60, every, nil, api.OK},
		{s, o, every, 0, 60, every, []int{5}, api.OK},
		{s, o, every, 1, 60, every, nil, api.OK},
		// A take that begins at the second is a later one, and one that began
		// a second before is not; the others get the least, whoever had them.
		{s, o, every, 2, 30, []int{2, 1, 0, 1, 0, 1}, nil, api.OK},
		{s, o, every, 2, 31, []int{2, 1, 0, 2, 0, 1}, []int{3}, api.OK},
		{s, o, every, 1, 10, []int{2, 0, 2, 0, 2, 0}, nil, api.OK},
		{s, o, every, 1, 11, []int{2, 1, 0, 2, 0, 2}, []int{1}, api.OK},
		// Done at the second at the latest, or a second later.
		{s, o, every, 2, 20, []int{2, 1, 0, 1, 0, 1}, nil, api.OK},
		{s, o, every, 2, 19, []int{2, 1, 0, 1, 0, 1}, []int{0}, api.OK},
		{s, o, every, 2, 49, every, []int{3}, api.OK},
		{s, o, every, 2, 50, every, nil, api.OK},
		// One who has no take is relieved, too.
		{s, o, []int{0, 1, 0, 1, 0, 1}, 2, 25, []int{0, 1, 0, 1, 0, 1}, nil, api.OK},
		// The only one, or both, may be gone.
		{plain(20, 20, 1), alone(0, 0, 0, 0), []int{0}, 0, 0, nil, nil, api.ErrNone},
		{plain(20, 20, 1), alone(0, 0, 0, 0), []int{0}, 0, 1, []int{0}, []int{0}, api.OK},
		{plain(20, 20, 1), alone(0, 0, 0, 0), []int{0}, 0, 20, []int{0}, nil, api.OK},
		// No takes.
		{with(plain(9, 4, 1), span(0, 9)), alone(0, 0, 0, 0), nil, 0, 9, nil, nil, api.OK},
		{with(plain(9, 4, 1), span(0, 9)), alone(0, 0, 0, 0), nil, 0, 0, nil, nil, api.OK},
	} {
		after, open, e := take.Relieve(x.s, x.o, x.rota, x.reporter, x.second)
		if !slices.Equal(after, x.after) || !slices.Equal(open, x.open) || e != x.e {
			t.Errorf("Relieve %d of %v at %d: %v, %v, %v, not %v, %v, %v", x.reporter, x.rota, x.second, after, open, e, x.after, x.open, x.e)
		}
	}
}

// P1.5
func TestP1_5Refused(t *testing.T) {
	right, wrong := []int{1, 0, 2, 1, 0}, []int{0, 0, 0, 0, 0}
	for _, x := range []struct {
		rota             []int
		reporter, second int
		want             api.Errno
	}{
		{nil, 0, 0, api.ErrRange}, {right[:4], 0, 0, api.ErrRange}, {append(slices.Clip(right), 2), 0, 0, api.ErrRange}, {[]int{1, 0, 3, 1, 0}, 0, 0, api.ErrRange}, {[]int{1, 0, -1, 1, 0}, 0, 0, api.ErrRange},
		{wrong, 0, 0, api.ErrFail}, {[]int{1, 0, 2, 1, 1}, 0, 0, api.ErrFail},
		{right, 3, 600, api.ErrRange}, {right, -1, 600, api.ErrRange}, {right, math.MaxInt, 600, api.ErrRange}, {right, math.MinInt, 600, api.ErrRange},
		{right, 2, -1, api.ErrRange}, {right, 2, 1001, api.ErrRange}, {right, 2, math.MaxInt, api.ErrRange}, {right, 2, math.MinInt, api.ErrRange},
		{right, 1, 600, api.ErrNone}, {right, 0, 0, api.ErrNone},
		// One who is not there, in a rota of the wrong length; in one that is
		// not right; and where there would be no rota after it.
		{wrong[:4], 0, 0, api.ErrRange}, {wrong, 3, 0, api.ErrFail}, {wrong, 0, -1, api.ErrFail}, {wrong, 0, 1001, api.ErrFail}, {right, -1, 0, api.ErrRange}, {right, 1, -1, api.ErrRange},
	} {
		after, open, e := take.Relieve(sitting(), office(), x.rota, x.reporter, x.second)
		if len(after) != 0 || len(open) != 0 || e != x.want {
			t.Errorf("Relieve %d of %v at %d: %v, %v, %v, not %v", x.reporter, x.rota, x.second, after, open, e, x.want)
		}
	}
	for _, x := range faulty() {
		if after, open, e := take.Relieve(x.s, x.o, []int{7}, -1, -1); len(after) != 0 || len(open) != 0 || e != x.want {
			t.Errorf("Relieve in %v, %v: %v, %v, %v, not %v", x.s, x.o, after, open, e, x.want)
		}
	}
}

// P1.5
func TestP1_5AllRotas(t *testing.T) {
	d := dice(5)
	var found, none, stays, open int
	for range 4000 {
		s, o := d.smallSitting(), d.smallOffice(api.MaxCrew)
		takes := cutBySeconds(s)
		rota := d.rightRota(takes, o)
		if rota == nil {
			continue
		}
		reporter, second := d.roll(0, len(o.Crew)-1), d.second(s, takes)
		want, _ := leastRight(takes, o, func(i, r int) bool {
			if takes[i].From < second {
				return r == rota[i]
			}
			return r != reporter
		})
		after, l, e := take.Relieve(s, o, rota, reporter, second)
		if want == nil {
			none++
			if len(after) != 0 || len(l) != 0 || e != api.ErrNone {
				t.Fatalf("%v, %v: Relieve %d of %v at %d: %v, %v, %v", s, o, reporter, rota, second, after, l, e)
			}
			continue
		}
		if wantOpen := opens(takes, o, rota, reporter, second); !slices.Equal(after, want) || !slices.Equal(l, wantOpen) || e != api.OK {
			t.Fatalf("%v, %v: Relieve %d of %v at %d: %v, %v, %v, not %v, %v", s, o, reporter, rota, second, after, l, e, want, wantOpen)
		}
		found++
		if slices.Equal(after, rota) {
			stays++
		}
		open += len(l)
	}
	if found < 500 || none < 100 || found-stays < 50 || open < 100 {
		t.Errorf("%d rotas were found, %d not; %d are as before; %d takes stayed open", found, none, stays, open)
	}
}

// second throws a second of the sitting, or its end; often where a take ends.
func (d *dice) second(s take.Sitting, takes []take.Span) int {
	if len(takes) > 0 && d.roll(0, 2) > 0 {
		return min(s.Length, takes[d.roll(0, len(takes)-1)].From+d.roll(0, 1))
	}
	return d.roll(0, s.Length)
}

// opens returns the takes that may be done behind the second, by trying all
// that may come true.
func opens(takes []take.Span, o take.Office, rota []int, reporter, second int) []int {
	var list []int
	for i, t := range takes {
		late := slices.ContainsFunc(reals(o, reporter), func(x take.Real) bool { return doneAt(t, x) > second })
		if rota[i] == reporter && t.From < second && late {
			list = append(list, i)
		}
	}
	return list
}

// P1.11
func TestP1_11Relieved(t *testing.T) {
	d := dice(11)
	relieved := 0
	for range 3000 {
		s, o := d.smallSitting(), d.smallOffice(api.MaxCrew)
		takes, _ := take.Takes(s)
		rota := d.rightRota(takes, o)
		reporter, second := d.roll(0, len(o.Crew)-1), d.second(s, takes)
		if rota == nil {
			continue
		}
		after, open, e := take.Relieve(s, o, rota, reporter, second)
		if e != api.OK {
			continue
		}
		relieved++
		if !take.ProveRota(s, o, after) || !isRight(takes, o, after) || len(after) != len(takes) {
			t.Fatalf("%v, %v: %v is not right after %d of %v is relieved at %d", s, o, after, reporter, rota, second)
		}
		for i, x := range takes {
			if x.From < second && after[i] != rota[i] || x.From >= second && after[i] == reporter {
				t.Fatalf("%v, %v: %v after %d of %v is relieved at %d", s, o, after, reporter, rota, second)
			}
		}
		for range 4 {
			done, _ := take.Done(s, o, after, d.real(o, after))
			for i, x := range takes {
				if after[i] == reporter && x.From < second && !slices.Contains(open, i) && done[i] > second {
					t.Fatalf("%v, %v: %d of %v is relieved at %d; the take %d is done at %d, and not open", s, o, reporter, rota, second, i, done[i])
				}
			}
		}
		for _, i := range open {
			if rota[i] != reporter || takes[i].From >= second {
				t.Fatalf("%v, %v: %d of %v is relieved at %d; %v stay open", s, o, reporter, rota, second, open)
			}
		}
	}
	if relieved < 500 {
		t.Errorf("%d reporters were relieved", relieved)
	}
}

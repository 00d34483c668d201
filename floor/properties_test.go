package floor_test

import (
	"slices"
	"testing"

	"palantype/api"
	"palantype/floor"
)

// scene throws a scene that is small, or (more seldom) of any size.
func (d *dice) scene() floor.Scene {
	if d.roll(0, 29) > 0 {
		return d.smallScene()
	}
	s, _ := d.largeScene()
	return s
}

// only returns the scene with one moment made to these sets.
func only(s floor.Scene, i int, floorSet, heard uint16) floor.Scene {
	s.Moments = slices.Clone(s.Moments)
	s.Moments[i] = moment(floorSet, heard)
	return s
}

// tellable says whether the scene does not break.
func tellable(t *testing.T, s floor.Scene) bool {
	t.Helper()
	_, e := floor.Breaks(s)
	if e != api.OK && e != api.ErrNone {
		t.Fatalf("Breaks of %v: %v", s, e)
	}
	return e == api.ErrNone
}

// P2.5: just those whom Who names may be so, as the scene that has them alone
// in the moment can still be told.
func TestP2_5AllWhoCould(t *testing.T) {
	d := dice(50)
	var named, lost int
	for range 700 {
		s := d.scene()
		w, e := floor.Who(s)
		if e != api.OK {
			continue
		}
		for i, m := range s.Moments {
			for who := -1; who < s.Persons; who++ {
				holds, heard := in(w[i].Floor, who), in(w[i].Heard, who)
				if in(m.Floor, who) && tellable(t, only(s, i, setOf(who), m.Heard)) != holds || holds && !in(m.Floor, who) {
					t.Fatalf("%v: Who of the moment %d: %v; %d holds the floor?", s, i, w[i], who)
				}
				if in(m.Heard, who) && tellable(t, only(s, i, m.Floor, setOf(who))) != heard || heard && !in(m.Heard, who) {
					t.Fatalf("%v: Who of the moment %d: %v; %d is heard?", s, i, w[i], who)
				}
				named += len(list(w[i].Floor))
				lost += len(list(m.Floor &^ w[i].Floor))
			}
		}
	}
	if named < 1000 || lost < 1000 {
		t.Errorf("%d are named, %d who could be are not", named, lost)
	}
	// All right tellings of small scenes keep to what Who returns.
	for range 500 {
		s := d.smallScene()
		w, _ := floor.Who(s)
		for _, l := range tellings(s) {
			if !keepsTo(l, w) {
				t.Fatalf("Who of %v: %v; but %v is right", s, w, l)
			}
		}
	}
}

// keepsTo says whether all of the telling are among those whom Who names.
func keepsTo(l []floor.Part, w []floor.Told) bool {
	for i, p := range l {
		if len(w) != len(l) || !in(w[i].Floor, p.Holder) || !in(w[i].Heard, p.Voice) {
			return false
		}
	}
	return true
}

// P2.6
func TestP2_6Sure(t *testing.T) {
	d := dice(60)
	sure := 0
	for range 3000 {
		s := d.smallScene()
		w, e := floor.Who(s)
		if e != api.OK || slices.ContainsFunc(w, func(x floor.Told) bool { return !one(x) }) {
			continue
		}
		sure++
		l, e := floor.Tell(s)
		if all := tellings(s); len(all) != 1 || !slices.Equal(l, all[0]) || e != api.OK {
			t.Fatalf("Tell of %v: %v, %v, not as in %v", s, l, e, all)
		}
	}
	if sure < 500 {
		t.Errorf("%d scenes were sure", sure)
	}
}

// P2.7
func TestP2_7Held(t *testing.T) {
	d := dice(70)
	var sure, unsure int
	for range 2000 {
		s := d.scene()
		if !tellable(t, s) {
			continue
		}
		tell, _ := floor.Tell(s)
		least := 0
		for person := range s.Persons {
			r, e := floor.Held(s, person)
			if e != api.OK || r.Lo < 0 || r.Lo > r.Hi || r.Hi > len(s.Moments) {
				t.Fatalf("Held by %d of %v: %v, %v", person, s, r, e)
			}
			least += r.Lo
			if r.Lo == r.Hi {
				sure++
			} else {
				unsure++
			}
			counts := []int{holds(tell, person)}
			if few(s.Moments) {
				counts = nil
				for _, l := range tellings(s) {
					counts = append(counts, holds(l, person))
				}
				if slices.Min(counts) != r.Lo || slices.Max(counts) != r.Hi {
					t.Fatalf("Held by %d of %v: %v, but there are %v", person, s, r, counts)
				}
			}
			if slices.ContainsFunc(counts, func(c int) bool { return c < r.Lo || c > r.Hi }) {
				t.Fatalf("Held by %d of %v: %v, but there are %v", person, s, r, counts)
			}
		}
		if least > len(s.Moments) {
			t.Fatalf("%v: all Lo are %d together", s, least)
		}
	}
	if sure < 500 || unsure < 500 {
		t.Errorf("%d numbers were sure, %d not", sure, unsure)
	}
}

// P2.8
func TestP2_8Turns(t *testing.T) {
	d := dice(80)
	var looked, cries, long int
	for range 4000 {
		s := d.scene()
		l, e := floor.Tell(s)
		if e != api.OK {
			continue
		}
		if !isRight(s, l) || !floor.ProveTelling(s, l) {
			t.Fatalf("Tell of %v: %v", s, l)
		}
		looked++
		cries += len(interjections(l))
		if len(turns(l)) > 4 {
			long++
		}
	}
	if looked < 2000 || cries < 200 || long < 50 {
		t.Errorf("%d tellings with %d interjections, %d of many turns", looked, cries, long)
	}
}

// P2.9
func TestP2_9LessKnown(t *testing.T) {
	d := dice(90)
	var more, same int
	for range 1500 {
		s := d.scene()
		w, e := floor.Who(s)
		if e != api.OK {
			continue
		}
		for _, wider := range d.wider(s) {
			x, e := floor.Who(wider)
			if e != api.OK || len(x) != len(w) {
				t.Fatalf("%v can be told, not %v: %v", s, wider, e)
			}
			for i := range w {
				if w[i].Floor&^x[i].Floor != 0 || w[i].Heard&^x[i].Heard != 0 {
					t.Fatalf("Who of %v: %v, and of %v: %v", s, w, wider, x)
				}
			}
			if slices.Equal(w, x) {
				same++
			} else {
				more++
			}
		}
	}
	if more < 300 || same < 300 {
		t.Errorf("%d times more could be, %d times not", more, same)
	}
}

// wider returns scenes of which less is known in one way.
func (d *dice) wider(s floor.Scene) []floor.Scene {
	var l []floor.Scene
	if len(s.Moments) > 0 {
		i := d.roll(0, len(s.Moments)-1)
		m := s.Moments[i]
		l = append(l, only(s, i, m.Floor|d.set(s.Persons, 5), m.Heard), only(s, i, m.Floor, m.Heard|d.set(s.Persons, 5)))
	}
	most, short, least := s, s, s
	most.Most = d.roll(s.Most, api.MaxTurn)
	short.Short = d.roll(s.Short, api.MaxTurn)
	least.Least = d.roll(1, s.Least)
	return append(l, most, short, least)
}

// P2.10
func TestP2_10TheBreak(t *testing.T) {
	d := dice(100)
	var broken, late int
	for range 4000 {
		s := d.scene()
		k, e := floor.Breaks(s)
		if e != api.OK {
			continue
		}
		broken++
		if k > 1 {
			late++
		}
		if !tellable(t, cutAt(s, k)) || tellable(t, cutAt(s, k+1)) {
			t.Fatalf("Breaks of %v: %d", s, k)
		}
		if l, e := floor.Tell(cutAt(s, k)); !isRight(cutAt(s, k), l) || e != api.OK {
			t.Fatalf("Breaks of %v: %d; Tell of what is before: %v, %v", s, k, l, e)
		}
		if cut := cutAt(s, k+1); few(cut.Moments) && len(tellings(cut)) > 0 {
			t.Fatalf("Breaks of %v: %d; but up to there it can be told", s, k)
		}
		on := cutAt(s, k+1)
		for range d.roll(1, 3) {
			on.Moments = append(on.Moments, moment(d.set(s.Persons, 9), d.set(s.Persons, 9)))
		}
		if len(on.Moments) > api.MaxMoments {
			continue
		}
		if again, e := floor.Breaks(on); again != k || e != api.OK {
			t.Fatalf("Breaks of %v: %d; of %v: %d, %v", s, k, on, again, e)
		}
		if l, e := floor.Tell(on); len(l) != 0 || e != api.ErrGap {
			t.Fatalf("%v breaks at %d; Tell: %v, %v", on, k, l, e)
		}
	}
	if broken < 500 || late < 100 {
		t.Errorf("%d scenes break, %d late", broken, late)
	}
}

// P2.11: what Tell returns is not specified, so it is not the same telling that
// is due of it, but one that is right.
func TestP2_11Names(t *testing.T) {
	d := dice(110)
	told, sure := 0, 0
	for range 2000 {
		s := d.scene()
		number := d.numbers(s.Persons)
		other := renamed(s, number)
		w, e := floor.Who(s)
		x, f := floor.Who(other)
		for i := range w {
			w[i] = floor.Told{Floor: renamedSet(w[i].Floor, number), Heard: renamedSet(w[i].Heard, number)}
		}
		if !slices.Equal(w, x) || e != f {
			t.Fatalf("Who of %v by other numbers: %v, %v; of %v: %v, %v", s, w, e, other, x, f)
		}
		k, e := floor.Breaks(s)
		if m, f := floor.Breaks(other); m != k || e != f {
			t.Fatalf("Breaks of %v: %d, %v; of %v: %d, %v", s, k, e, other, m, f)
		}
		for person := range s.Persons {
			r, e := floor.Held(s, person)
			if q, f := floor.Held(other, number[person]); q != r || e != f {
				t.Fatalf("Held by %d of %v: %v, %v; of %v: %v, %v", person, s, r, e, other, q, f)
			}
		}
		l, e := floor.Tell(s)
		m, f := floor.Tell(other)
		if e != f {
			t.Fatalf("Tell of %v: %v; of %v: %v", s, e, other, f)
		}
		if e != api.OK {
			continue
		}
		told++
		for i, p := range l {
			l[i] = floor.Part{Holder: renamedOne(p.Holder, number), Voice: renamedOne(p.Voice, number)}
		}
		if !floor.ProveTelling(other, l) || !floor.ProveTelling(other, m) {
			t.Fatalf("Tell of %v by other numbers: %v; of %v: %v", s, l, other, m)
		}
		if !slices.ContainsFunc(w, func(x floor.Told) bool { return !one(x) }) {
			sure++
			if !slices.Equal(l, m) {
				t.Fatalf("Tell of %v by other numbers: %v; of %v: %v", s, l, other, m)
			}
		}
	}
	if told < 1000 || sure < 300 {
		t.Errorf("%d scenes can be told, %d in one way only", told, sure)
	}
}

// numbers throws another number for each person.
func (d *dice) numbers(persons int) []int {
	var l []int
	for i := range persons {
		l = slices.Insert(l, d.roll(0, i), i)
	}
	return l
}

func renamedOne(who int, number []int) int {
	if who == -1 {
		return -1
	}
	return number[who]
}

func renamedSet(set uint16, number []int) uint16 {
	var out uint16
	for _, who := range list(set) {
		out |= setOf(renamedOne(who, number))
	}
	return out
}

func renamed(s floor.Scene, number []int) floor.Scene {
	s.Moments = slices.Clone(s.Moments)
	for i, m := range s.Moments {
		s.Moments[i] = moment(renamedSet(m.Floor, number), renamedSet(m.Heard, number))
	}
	return s
}

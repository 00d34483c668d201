package floor_test

import (
	"slices"

	"palantype/floor"
)

// This file says again what the chapter defines, as literally and slowly as
// can be; the tests hold the package against it.

const n = floor.Nobody

// dice is a row of numbers that look thrown, and are the same in each run.
type dice uint64

// roll returns a number from lo to hi.
func (d *dice) roll(lo, hi int) int {
	*d = *d*6364136223846793005 + 1442695040888963407
	return lo + int(uint64(*d)>>33)%(hi-lo+1)
}

func moment(floorSet, heard uint16) floor.Moment {
	return floor.Moment{Floor: floorSet, Heard: heard}
}

// parts returns a telling of pairs of a Holder and a Voice.
func parts(pairs ...int) []floor.Part {
	var l []floor.Part
	for pair := range slices.Chunk(pairs, 2) {
		l = append(l, floor.Part{Holder: pair[0], Voice: pair[1]})
	}
	return l
}

// example is the example of the chapter.
func example() floor.Scene {
	return floor.Scene{Persons: 3, Least: 2, Most: 3, Short: 1, Moments: []floor.Moment{
		moment(3, 3), moment(3, 4), moment(3, 1), moment(2|n, 2|n), moment(2, 6),
	}}
}

// in says whether the person, or -1, is in the set.
func in(set uint16, who int) bool {
	if who == -1 {
		return set>>15&1 == 1
	}
	return 0 <= who && who < 15 && set>>who&1 == 1
}

// setOf returns the set of these.
func setOf(who ...int) uint16 {
	var set uint16
	for _, p := range who {
		if p == -1 {
			set |= n
		} else {
			set |= 1 << p
		}
	}
	return set
}

// list returns who is in the set.
func list(set uint16) []int {
	var l []int
	for who := -1; who < 15; who++ {
		if in(set, who) {
			l = append(l, who)
		}
	}
	return l
}

// spans returns the longest spans of moments that are of a kind, and each of
// which goes on from the one before.
func spans(l []floor.Part, kind func(floor.Part) bool, goesOn func(a, b floor.Part) bool) [][2]int {
	var found [][2]int
	for from := range l {
		if !kind(l[from]) || from > 0 && kind(l[from-1]) && goesOn(l[from-1], l[from]) {
			continue
		}
		to := from
		for to+1 < len(l) && kind(l[to+1]) && goesOn(l[to], l[to+1]) {
			to++
		}
		found = append(found, [2]int{from, to})
	}
	return found
}

func turns(l []floor.Part) [][2]int {
	return spans(l, func(p floor.Part) bool { return p.Holder != -1 }, func(a, b floor.Part) bool { return a.Holder == b.Holder })
}

func interjections(l []floor.Part) [][2]int {
	return spans(l, func(p floor.Part) bool { return p.Voice != -1 && p.Voice != p.Holder }, func(a, b floor.Part) bool { return true })
}

// isRight says whether a telling of a valid scene is right, rule by rule.
func isRight(s floor.Scene, l []floor.Part) bool {
	if len(l) != len(s.Moments) {
		return false
	}
	for i, p := range l {
		if !in(s.Moments[i].Floor, p.Holder) || !in(s.Moments[i].Heard, p.Voice) || p.Holder == -1 && p.Voice != -1 {
			return false
		}
	}
	own := func(i int) bool { return l[i].Voice == l[i].Holder }
	for _, t := range turns(l) {
		length, last := t[1]-t[0]+1, t[1] == len(l)-1
		if length > s.Most || length < s.Least && !last || !own(t[0]) || !own(t[1]) && !last {
			return false
		}
	}
	for _, t := range interjections(l) {
		same := !slices.ContainsFunc(l[t[0]:t[1]+1], func(p floor.Part) bool { return p.Holder != l[t[0]].Holder })
		if t[1]-t[0]+1 > s.Short || !same {
			return false
		}
	}
	return true
}

// choices returns all lists with a part of the sets for each moment.
func choices(moments []floor.Moment) [][]floor.Part {
	lists := [][]floor.Part{{}}
	for _, m := range moments {
		var longer [][]floor.Part
		for _, l := range lists {
			for _, holder := range list(m.Floor) {
				for _, voice := range list(m.Heard) {
					longer = append(longer, append(slices.Clip(l), floor.Part{Holder: holder, Voice: voice}))
				}
			}
		}
		lists = longer
	}
	return lists
}

// few says whether choices would be so few lists that all can be tried.
func few(moments []floor.Moment) bool {
	count := 1
	for _, m := range moments {
		if count *= len(list(m.Floor)) * len(list(m.Heard)); count > 4000 {
			return false
		}
	}
	return true
}

// tellings returns all right tellings of a valid scene.
func tellings(s floor.Scene) [][]floor.Part {
	return slices.DeleteFunc(choices(s.Moments), func(l []floor.Part) bool { return !isRight(s, l) })
}

// answer is what is to be said of a scene.
type answer struct {
	broken bool
	breaks int
	who    []floor.Told
	held   []floor.Range
}

// cutAt returns the scene of so many moments of it.
func cutAt(s floor.Scene, moments int) floor.Scene {
	s.Moments = s.Moments[:moments:moments]
	return s
}

// answerOf returns what is to be said of a valid scene, by all its tellings.
func answerOf(s floor.Scene) answer {
	for i := range s.Moments {
		if len(tellings(cutAt(s, i+1))) == 0 {
			return answer{broken: true, breaks: i}
		}
	}
	a := answer{who: make([]floor.Told, len(s.Moments))}
	all := tellings(s)
	for _, l := range all {
		for i, p := range l {
			a.who[i].Floor |= setOf(p.Holder)
			a.who[i].Heard |= setOf(p.Voice)
		}
	}
	for person := range s.Persons {
		var counts []int
		for _, l := range all {
			counts = append(counts, holds(l, person))
		}
		a.held = append(a.held, floor.Range{Lo: slices.Min(counts), Hi: slices.Max(counts)})
	}
	return a
}

// holds returns in how many moments the person is the Holder.
func holds(l []floor.Part, person int) int {
	count := 0
	for _, p := range l {
		if p.Holder == person {
			count++
		}
	}
	return count
}

// set throws a set: each person, and nobody, is in it with that many chances
// of ten.
func (d *dice) set(persons, chances int) uint16 {
	var set uint16
	for who := -1; who < persons; who++ {
		if d.roll(1, 10) <= chances {
			set |= setOf(who)
		}
	}
	return set
}

// bounds throws the bounds of a scene without moments.
func (d *dice) bounds(persons, most, short int) floor.Scene {
	s := floor.Scene{Persons: d.roll(1, persons), Most: d.roll(1, most), Short: d.roll(0, short)}
	s.Least = d.roll(1, s.Most)
	return s
}

// telling throws a telling that keeps the bounds.
func (d *dice) telling(s floor.Scene, moments int) []floor.Part {
	var l []floor.Part
	for last := -1; len(l) < moments; {
		holder := d.roll(-1, s.Persons-1)
		if holder == last && holder != -1 {
			continue
		}
		last = holder
		if holder == -1 {
			l = append(l, floor.Part{Holder: -1, Voice: -1})
			continue
		}
		length := d.roll(s.Least, s.Most)
		cry := 0
		for i := range length {
			voice := d.roll(-1, s.Persons-1)
			if i == 0 || i == length-1 || voice != -1 && voice != holder && cry == s.Short {
				voice = holder
			}
			if cry++; voice == -1 || voice == holder {
				cry = 0
			}
			l = append(l, floor.Part{Holder: holder, Voice: voice})
		}
	}
	return l[:moments]
}

// around throws moments in which all of the telling could be, and others.
func (d *dice) around(l []floor.Part, persons, chances int) []floor.Moment {
	var moments []floor.Moment
	for _, p := range l {
		moments = append(moments, moment(setOf(p.Holder)|d.set(persons, chances), setOf(p.Voice)|d.set(persons, chances)))
	}
	return moments
}

// smallScene throws a valid scene of few tellings: some of them with a right
// one, others with whatever sets there are.
func (d *dice) smallScene() floor.Scene {
	for {
		s := d.bounds(3, 4, 2)
		moments := d.roll(0, 6)
		if d.roll(0, 1) > 0 {
			s.Moments = d.around(d.telling(s, moments), s.Persons, d.roll(0, 7))
		} else {
			for range moments {
				s.Moments = append(s.Moments, moment(d.set(s.Persons, 7), d.set(s.Persons, 7)))
			}
		}
		if few(s.Moments) {
			return s
		}
	}
}

// largeScene throws a valid scene of any size, and a telling that is right for
// all of it, or nil if what was thrown last breaks it (or may).
func (d *dice) largeScene() (floor.Scene, []floor.Part) {
	s := d.bounds(12, 20, 6)
	l := d.telling(s, d.roll(20, 40))
	s.Moments = d.around(l, s.Persons, d.roll(0, 7))
	if d.roll(0, 3) > 0 {
		return s, l
	}
	i := d.roll(0, len(s.Moments)-1)
	s.Moments[i] = moment(d.set(s.Persons, 1), d.set(s.Persons, 2))
	return s, nil
}

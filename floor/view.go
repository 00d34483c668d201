package floor

import (
	"maps"
	"slices"

	"palantype/api"
)

// ends are the least and the greatest one of some numbers.
type ends [2]int

// endsOf returns the ends of the numbers, of which there are some.
func endsOf(numbers ...int) ends { return ends{slices.Min(numbers), slices.Max(numbers)} }

// view is a valid scene that is looked through. Its places are those at the
// beginning, and then those behind each moment that can be passed; each one has
// in how many moments, on the ways there, the counted one had the floor.
type view struct {
	Scene
	counted int
	places  []map[place]ends
}

// lookThrough returns the view of a valid scene in which the moments of this
// person, or of nobody, are counted.
func lookThrough(s Scene, counted int) view {
	v := view{s, counted, []map[place]ends{{start(): {}}}}
	for t := range s.Moments {
		behind := v.pass(t)
		if len(behind) == 0 {
			break
		}
		v.places = append(v.places, behind)
	}
	return v
}

// passed returns how many moments can be passed, from the first one on.
func (v view) passed() int { return len(v.places) - 1 }

// whole reports whether the scene can be told.
func (v view) whole() bool { return v.passed() == len(v.Moments) }

// pass returns the places behind a moment, from those ahead of it.
func (v view) pass(t int) map[place]ends {
	behind := map[place]ends{}
	for from, before := range v.places[t] {
		v.next(t, from, func(to place) bool {
			count := before
			if to.holder == v.counted {
				count[0]++
				count[1]++
			}
			if other, met := behind[to]; met {
				count = endsOf(count[0], count[1], other[0], other[1])
			}
			behind[to] = count
			return false
		})
	}
	return behind
}

// next tries the places behind a moment at which a telling may stand that
// stands at this one ahead of it, once each, by rising parts, up to one that is
// wanted; it reports whether there was one. Of those who may interrupt the
// holder only the least is tried, as the others lead to the same place.
func (v view) next(t int, from place, wanted func(to place) bool) bool {
	m, ask := v.Moments[t], v.follow
	for holder := range members(v.holders(m, from)) {
		rest := others(m.Heard, holder)
		for voice := range members(m.Heard&^rest | rest&-rest) {
			if to, may := ask(m, from, Part{holder, voice}); may && wanted(to) {
				return true
			}
		}
	}
	return false
}

// holders returns who could have the floor in a moment, but for those who would
// end a turn too early, as these need not be tried.
func (v view) holders(m Moment, from place) uint16 {
	if v.mayEnd(from) {
		return m.Floor
	}
	return m.Floor & bit(from.holder)
}

// told returns the view of a scene with the places of right tellings only, or
// the error of the scene.
func told(s Scene) (view, api.Errno) {
	if e := CheckScene(s); e != api.OK {
		return view{}, e
	}
	v := lookThrough(s, nobody)
	if !v.whole() {
		return view{}, api.ErrGap
	}
	for t := len(v.Moments) - 1; t >= 0; t-- {
		maps.DeleteFunc(v.places[t], func(from place, _ ends) bool {
			_, leads := v.onward(t, from)
			return !leads
		})
	}
	return v, api.OK
}

// onward returns the first one of the places behind a moment to which the place
// ahead of it leads, and whether there is one.
func (v view) onward(t int, from place) (to place, leads bool) {
	leads = v.next(t, from, func(p place) bool {
		to = p
		_, there := v.places[t+1][p]
		return there
	})
	return to, leads
}

// who returns what the places of right tellings tell of each moment.
func (v view) who() []Told {
	list := make([]Told, len(v.Moments))
	for t, m := range v.Moments {
		for at := range v.places[t+1] {
			list[t].Floor |= bit(at.holder)
			list[t].Heard |= heard(m, at)
		}
	}
	return list
}

// telling returns the first one of the right tellings.
func (v view) telling() []Part {
	list := make([]Part, len(v.Moments))
	at := start()
	for t, m := range v.Moments {
		at, _ = v.onward(t, at)
		list[t] = Part{at.holder, first(heard(m, at))}
	}
	return list
}

// held returns in how many moments, at least and at most, the counted one has
// the floor, if the scene can be told.
func (v view) held() ends {
	var counts []int
	for _, count := range v.places[v.passed()] {
		counts = append(counts, count[:]...)
	}
	return endsOf(counts...)
}

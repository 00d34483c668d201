package floor_test

import (
	"palantype/floor"
)

// This file answers for scenes that have too many tellings to try all of them.
// It goes through them turn by turn, where the package goes moment by moment.

// stretch is a turn, or a moment of nobody, that a telling may have: the moments
// on from and before to, and who may be heard in them.
type stretch struct {
	holder, from, to int
	voices           []uint16
}

// voicesOf returns who may be heard in the moments of a turn, or nil.
func voicesOf(s floor.Scene, holder, from, to int) []uint16 {
	isOwn := func(t int) bool { return t == from || t == to-1 && to != len(s.Moments) }
	others := func(t int) uint16 { return s.Moments[t].Heard &^ setOf(holder, -1) }
	// Where neither the holder nor nobody is heard, there is an interjection.
	forced := func(t int) bool { return from <= t && t < to && !isOwn(t) && others(t) == s.Moments[t].Heard }
	voices := make([]uint16, to-from)
	for t := from; t < to; t++ {
		set := s.Moments[t].Heard
		run := 1
		for a := t - 1; forced(a); a-- {
			run++
		}
		for b := t + 1; forced(b); b++ {
			run++
		}
		if run > s.Short {
			set &^= others(t)
		}
		if isOwn(t) {
			set &= setOf(holder)
		}
		if set == 0 || !in(s.Moments[t].Floor, holder) {
			return nil
		}
		voices[t-from] = set
	}
	return voices
}

// stretches returns all stretches that the scene may have.
func stretches(s floor.Scene) []stretch {
	var l []stretch
	for from, m := range s.Moments {
		if in(m.Floor, -1) && in(m.Heard, -1) {
			l = append(l, stretch{-1, from, from + 1, []uint16{n}})
		}
		for holder := range s.Persons {
			for to := from + 1; to <= min(from+s.Most, len(s.Moments)); to++ {
				if to-from < s.Least && to != len(s.Moments) {
					continue
				}
				if v := voicesOf(s, holder, from, to); v != nil {
					l = append(l, stretch{holder, from, to, v})
				}
			}
		}
	}
	return l
}

// joint is where a stretch of somebody, or of nobody, ends.
type joint struct{ at, holder int }

// mayMeet says whether a stretch may begin at the joint.
func mayMeet(j joint, x stretch) bool {
	return j.at == x.from && (j.holder != x.holder || x.holder == -1)
}

// heldBy returns in how many moments the person has the floor, for each joint
// that is reached from the beginning, at least and at most.
func heldBy(l []stretch, person int) map[joint]floor.Range {
	reached := map[joint]floor.Range{{0, -1}: {}}
	for _, x := range l { // by rising from, so all before it is there
		for holder := -1; holder < 12; holder++ {
			r, ok := reached[joint{x.from, holder}]
			if !ok || !mayMeet(joint{x.from, holder}, x) {
				continue
			}
			if x.holder == person {
				r.Lo, r.Hi = r.Lo+x.to-x.from, r.Hi+x.to-x.from
			}
			end := joint{x.to, x.holder}
			if old, ok := reached[end]; ok {
				r = floor.Range{Lo: min(r.Lo, old.Lo), Hi: max(r.Hi, old.Hi)}
			}
			reached[end] = r
		}
	}
	return reached
}

// endsWell returns the joints from which stretches lead to the end of a scene of
// so many moments.
func endsWell(l []stretch, moments int) map[joint]bool {
	good := map[joint]bool{}
	for holder := -1; holder < 12; holder++ {
		good[joint{moments, holder}] = true
	}
	for i := len(l) - 1; i >= 0; i-- {
		for holder := -1; holder < 12; holder++ {
			j := joint{l[i].from, holder}
			if mayMeet(j, l[i]) && good[joint{l[i].to, l[i].holder}] {
				good[j] = true
			}
		}
	}
	return good
}

// canBeTold says whether stretches lead through the whole scene.
func canBeTold(s floor.Scene) bool { return endsWell(stretches(s), len(s.Moments))[joint{0, -1}] }

// answerByTurns returns what is to be said of a valid scene.
func answerByTurns(s floor.Scene) answer {
	if !canBeTold(s) {
		last := 0
		for canBeTold(cutAt(s, last+1)) {
			last++
		}
		return answer{broken: true, breaks: last}
	}
	l := stretches(s)
	reached, good := heldBy(l, -1), endsWell(l, len(s.Moments))
	a := answer{who: make([]floor.Told, len(s.Moments))}
	for _, x := range l {
		for holder := -1; holder < 12; holder++ {
			j := joint{x.from, holder}
			if _, ok := reached[j]; !ok || !mayMeet(j, x) || !good[joint{x.to, x.holder}] {
				continue
			}
			for t := x.from; t < x.to; t++ {
				a.who[t].Floor |= setOf(x.holder)
				a.who[t].Heard |= x.voices[t-x.from]
			}
		}
	}
	for person := range s.Persons {
		all := floor.Range{Lo: len(s.Moments)}
		for j, r := range heldBy(l, person) {
			if j.at == len(s.Moments) {
				all = floor.Range{Lo: min(all.Lo, r.Lo), Hi: max(all.Hi, r.Hi)}
			}
		}
		a.held = append(a.held, all)
	}
	return a
}

package office

import (
	"iter"
	"slices"

	"palantype/api"
)

// none stands where a person or an office could.
const none = -1

// ordered is a term among those of its office, with its index in the roll and
// what is known of it.
type ordered struct {
	Term
	Known
	index int
}

// common returns the days that are in all of the ranges: from the greatest Lo to
// the least Hi.
func common(ranges ...Range) Range {
	days := calendar()
	for _, r := range ranges {
		days = Range{max(days.Lo, r.Lo), min(days.Hi, r.Hi)}
	}
	return days
}

// handover returns the range in which the one term ends, and the next one
// begins: this one cannot do so earlier, nor that one later.
func handover(before, after ordered) Range { return Range{before.To.Lo, after.From.Hi} }

// rising gives the terms of the office by rising days, if the roll can be. By all
// right dates they come in the order of their cores; so only the terms at both
// sides of one narrow what is known of it, and its Begin says nothing of its End.
func (v register) rising(office int) iter.Seq[ordered] {
	return func(yield func(ordered) bool) {
		list := v.terms(office)
		for i, t := range list {
			if i > 0 {
				t.Begin = common(t.From, handover(list[i-1], t))
			}
			if i+1 < len(list) {
				t.End = common(t.To, handover(t, list[i+1]))
			}
			if !yield(t) {
				return
			}
		}
	}
}

// terms returns the terms of the office, by rising days of their cores, as if
// each were the only one.
func (v register) terms(office int) []ordered {
	var list []ordered
	for i, t := range v.Terms {
		if t.Office == office {
			list = append(list, ordered{t, Known{t.From, t.To}, i})
		}
	}
	slices.SortFunc(list, func(a, b ordered) int { return a.From.Hi - b.From.Hi })
	return list
}

// known returns what is known of each term, if the roll can be.
func (v register) known() []Known {
	list := make([]Known, len(v.Terms))
	for office := range v.Offices {
		for t := range v.rising(office) {
			list[t.index] = t.Known
		}
	}
	return list
}

// surely and perhaps report whether the term has the day in all right dates, or
// in some.
func (t ordered) surely(day int) bool { return t.Begin.Hi <= day && day < t.End.Lo }

func (t ordered) perhaps(day int) bool { return t.Begin.Lo <= day && day < t.End.Hi }

// holders are who holds an office on a day.
type holders struct {
	surely  int
	perhaps [api.MaxHolders]bool
}

// holders returns who holds the office on the day, if the roll can be.
func (v register) holders(office, day int) holders {
	h := holders{surely: none}
	for t := range v.rising(office) {
		if t.surely(day) {
			h.surely = t.Person
		}
		if t.perhaps(day) {
			h.perhaps[t.Person] = true
		}
	}
	return h
}

// vacant reports whether the office may be vacant. It may be if no term surely
// has the day, as by their cores alone none has it. (So who may have it by two
// terms, one after the other, does not have it surely.)
func (h holders) vacant() bool { return h.surely == none }

// list returns the persons who perhaps hold the office, rising.
func (h holders) list() []int {
	var persons []int
	for person, may := range h.perhaps {
		if may {
			persons = append(persons, person)
		}
	}
	return persons
}

// styles returns the styles that the person may have on the day, if the roll can
// be. Who holds one office says nothing of who holds another one; so an office
// may be the style if the person perhaps holds it, and no higher one surely.
func (v register) styles(person, day int) []int {
	var list []int
	for office := range v.Offices {
		h := v.holders(office, day)
		if h.perhaps[person] {
			list = append(list, office)
		}
		if h.surely == person {
			return list
		}
	}
	return slices.Insert(list, 0, none)
}

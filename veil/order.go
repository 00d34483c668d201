package veil

import (
	"slices"
)

// latest returns the latest one of the years.
func latest(year int, others ...int) int {
	for _, other := range others {
		year = max(year, other)
	}
	return year
}

// hiding returns the orders that hold and hide the word.
func (s sight) hiding(word int) []Order {
	var list []Order
	for _, o := range s.Orders {
		if s.holds(o) && within(word, o.From, o.To-1) {
			list = append(list, o)
		}
	}
	return list
}

// untils returns the years until which the word is hidden, order by order.
func (s sight) untils(word int) []int {
	var years []int
	for _, o := range s.hiding(word) {
		years = append(years, o.Until)
	}
	return years
}

// shut returns what is shut, by rising From. An order that does not hold in the
// reader's year ends ahead of those that hold, or is of a kind that the reader may
// read; so it does not matter for the Year.
func (s sight) shut() []Shut {
	var list []Shut
	for word, hidden := range s.hidden {
		if !hidden {
			continue
		}
		if s.hidden.begins(word) {
			list = append(list, Shut{From: word})
		}
		last := &list[len(list)-1]
		last.To = word + 1
		last.Year = latest(last.Year, s.untils(word)...)
	}
	return list
}

// useless returns the indexes of the orders that hold, and without which the same
// words are hidden.
func (s sight) useless() []int {
	var list []int
	for i, o := range s.Orders {
		others := slices.Concat(s.Orders[:i], s.Orders[i+1:])
		if s.holds(o) && veilBy(others, s.holds) == s.hidden {
			list = append(list, i)
		}
	}
	return list
}

// fewest returns the least number of orders that hold and hide together all that is
// hidden. Some order is needed for the first hidden word; of those that hide it, the
// one that goes furthest hides from there on all that another one does, so that no
// choice needs fewer orders behind it.
func (s sight) fewest() int {
	var needed func(from int) int
	needed = func(from int) int {
		next := slices.Index(s.hidden[from:], true)
		if next < 0 {
			return 0
		}
		return 1 + needed(s.reach(from+next))
	}
	return needed(0)
}

// reach returns the word behind the last one that the orders hide which hide this
// hidden word.
func (s sight) reach(word int) int {
	end := word
	for _, o := range s.hiding(word) {
		end = max(end, o.To)
	}
	return end
}

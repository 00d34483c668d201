package draft

import (
	"maps"
	"slices"
)

// sources returns the sources of the item, rising. A change is followed once,
// even if many of its items are met: otherwise changes of changes would double
// the way again and again.
func (s *sheet) sources(x Item) []int {
	words, followed := map[int]bool{}, map[int]bool{}
	var follow func(Item)
	follow = func(x Item) {
		if x.Maker == 0 {
			words[x.Origin] = true
			return
		}
		if followed[x.Maker] {
			return
		}
		followed[x.Maker] = true
		for _, y := range s.entries {
			if y.taker == x.Maker {
				follow(y.Item)
			}
		}
	}
	follow(x)
	return slices.Sorted(maps.Keys(words))
}

// trace returns the trace of the item.
func (s *sheet) trace(x Item) Trace {
	t := Trace{Sources: s.sources(x), First: -1, Last: -1}
	if len(t.Sources) == 0 {
		return t
	}
	for _, word := range t.Sources {
		t.Reporters = append(t.Reporters, s.Words[word].Reporter)
	}
	slices.Sort(t.Reporters)
	t.Reporters = slices.Compact(t.Reporters)
	t.First = s.Words[t.Sources[0]].Second
	t.Last = s.Words[t.Sources[len(t.Sources)-1]].Second
	return t
}

// traces returns the traces of the visible items, in order.
func (s *sheet) traces() []Trace {
	var list []Trace
	for _, x := range s.visible() {
		list = append(list, s.trace(x))
	}
	return list
}

// lost returns the words that are no source in these traces, rising.
func (s *sheet) lost(traces []Trace) []int {
	var list []int
	for word := range s.Words {
		if !slices.ContainsFunc(traces, func(t Trace) bool { return slices.Contains(t.Sources, word) }) {
			list = append(list, word)
		}
	}
	return list
}

package draft

import (
	"iter"
	"slices"

	"palantype/api"
)

// entry is an item in the sheet, with the number of the change that took it
// away, or 0 while it is visible.
type entry struct {
	Item
	taker int
}

// sheet is a draft that is edited. What was taken away stays among the entries,
// so that it comes back to its own place, whatever has come beside it.
type sheet struct {
	Draft
	entries []entry
	changes int   // how many were done
	live    []int // numbers of those that are not undone, rising
}

// cannot is a step that cannot be done, or undone. It is thrown.
type cannot Step

// open returns the sheet of the draft, as it is at first.
func open(d Draft) *sheet {
	s := &sheet{Draft: d}
	for i, w := range s.Words {
		s.put(i, entry{Item: Item{Text: w.Text, Origin: i}})
	}
	return s
}

// play takes the steps, from the first sheet of the draft on. If one of them
// cannot be, step is its index.
func play(d Draft, steps []Step) (s *sheet, step int, e api.Errno) {
	if e := CheckDraft(d); e != api.OK {
		return nil, 0, e
	}
	if len(steps) > api.MaxSteps {
		return nil, 0, api.ErrLimit
	}
	defer func() {
		if _, ok := recover().(cannot); ok {
			s, e = nil, api.ErrFail
		}
	}()
	s = open(d)
	for i, x := range steps {
		step = i
		do := s.deed(x)
		do(x)
	}
	return s, 0, api.OK
}

// deed returns what the step does.
func (s *sheet) deed(x Step) func(Step) {
	if x.Undo != 0 {
		return s.undo
	}
	return s.change
}

// visible gives the visible items, in order, with their places among the
// entries.
func (s *sheet) visible() iter.Seq2[int, Item] {
	return func(yield func(int, Item) bool) {
		for place, x := range s.entries {
			if x.taker == 0 && !yield(place, x.Item) {
				return
			}
		}
	}
}

// shown returns the places of the visible items, and the items.
func (s *sheet) shown() (places []int, items []Item) {
	for place, x := range s.visible() {
		places = append(places, place)
		items = append(items, x)
	}
	return places, items
}

// put puts entries into the sheet, ahead of what is at the place.
func (s *sheet) put(place int, list ...entry) {
	s.entries = slices.Insert(s.entries, place, list...)
}

// protects reports whether the item is a protected word. (What a change put is
// none, as its Origin is no index.)
func (s *sheet) protects(x Item) bool { return slices.Contains(s.Kept, x.Origin) }

// allows reports whether the change can be done while these items are visible.
func (s *sheet) allows(x Step, items []Item) bool {
	if !within(x.Cut, 0, api.MaxCut) || !within(x.At, 0, len(items)-x.Cut) {
		return false
	}
	if !validPut(x.Put) || x.Cut == 0 && len(x.Put) == 0 {
		return false
	}
	return !slices.ContainsFunc(items[x.At:x.At+x.Cut], s.protects)
}

// change does the change, or throws it.
func (s *sheet) change(x Step) {
	places, items := s.shown()
	if !s.allows(x, items) {
		panic(cannot(x))
	}
	s.changes++
	s.live = append(s.live, s.changes)
	for _, place := range places[x.At : x.At+x.Cut] {
		s.entries[place].taker = s.changes
	}
	var list []entry
	for _, text := range x.Put {
		list = append(list, entry{Item: Item{text, -1, s.changes}})
	}
	s.put(placeOf(x, places), list...)
}

// placeOf returns the place of what the change puts, if these are the places of
// the visible items.
func placeOf(x Step, places []int) int {
	switch {
	case x.Cut > 0:
		return places[x.At]
	case x.At > 0:
		return places[x.At-1] + 1
	}
	return 0
}

// undo undoes the change that the step names, or throws the step.
func (s *sheet) undo(x Step) {
	if !slices.Contains(s.undoable(), x.Undo) {
		panic(cannot(x))
	}
	s.entries = slices.DeleteFunc(s.entries, func(y entry) bool { return y.Maker == x.Undo })
	for i := range s.entries {
		if s.entries[i].taker == x.Undo {
			s.entries[i].taker = 0
		}
	}
	s.live = slices.DeleteFunc(s.live, func(number int) bool { return number == x.Undo })
}

// undoable returns the numbers of the changes that can be undone, rising: of
// those that are live and of whose items none was taken away.
func (s *sheet) undoable() []int {
	changed := map[int]bool{} // whose items were taken away
	for _, x := range s.entries {
		if x.taker != 0 {
			changed[x.Maker] = true
		}
	}
	var list []int
	for _, number := range s.live {
		if !changed[number] {
			list = append(list, number)
		}
	}
	return list
}

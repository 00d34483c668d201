package office

import (
	"iter"
	"slices"
	"strings"

	"palantype/api"
)

// gap is the text of a quotation behind which something may be left out.
const gap = "..."

// remark reports whether the text of a quotation is one.
func remark(text string) bool {
	return len(text) >= 3 && strings.HasPrefix(text, "[") && strings.HasSuffix(text, "]")
}

// quoted is a quoted word or a remark, and whether a gap stands ahead of it.
type quoted struct {
	text  string
	apart bool
}

// standsFor reports whether this may stand for the text of the paper.
func (q quoted) standsFor(text string) bool { return q.text == text || remark(q.text) }

// search is for the places in a paper of what is quoted from it.
type search struct {
	paper, kept []string
	quoted      []quoted
}

// quote returns the search for the quotation, or the error of what it is given.
func quote(paper, quotation, kept []string) (search, api.Errno) {
	if !within(len(paper), 1, api.MaxQuoted) || len(quotation) > api.MaxQuoted || len(kept) > api.MaxKept ||
		!all(slices.Concat(paper, quotation, kept), validWord) {
		return search{}, api.ErrArg
	}
	v := search{paper: paper, kept: kept}
	apart := false
	for _, text := range quotation {
		if text != gap {
			v.quoted = append(v.quoted, quoted{text, apart})
		}
		apart = text == gap
	}
	if len(v.quoted) == 0 {
		return search{}, api.ErrArg
	}
	return v, api.OK
}

// places gives the places, rising, that the text of the quotation with this
// index may have, if the one ahead of it has the last place; it is -1 for the
// first one, which may stand anywhere.
func (v search) places(index, last int) iter.Seq[int] {
	return func(yield func(int) bool) {
		q := v.quoted[index]
		for place := last + 1; place < len(v.paper); place++ {
			text := v.paper[place]
			if q.standsFor(text) && !yield(place) {
				return
			}
			mayBeLeftOut := index == 0 || q.apart && !slices.Contains(v.kept, text)
			if !mayBeLeftOut {
				return
			}
		}
	}
}

// fits reports whether the quotation fits at these places.
func (v search) fits(places []int) bool {
	if len(places) != len(v.quoted) {
		return false
	}
	last := -1
	for i, place := range places {
		if !among(v.places(i, last), place) {
			return false
		}
		last = place
	}
	return true
}

// among reports whether the place is one of these.
func among(places iter.Seq[int], place int) bool {
	for p := range places {
		if p == place {
			return true
		}
	}
	return false
}

// tried is the text with that index, behind one that has the last place.
type tried struct{ index, last int }

// first returns the first places with which the quotation fits, and whether
// there are some. What could not be gone on from is kept, so that it is not
// tried twice.
func (v search) first() (places []int, found bool) {
	places = make([]int, len(v.quoted))
	failed := map[tried]bool{}
	var fill func(index, last int) bool
	fill = func(index, last int) bool {
		if index == len(places) {
			return true
		}
		if failed[tried{index, last}] {
			return false
		}
		for place := range v.places(index, last) {
			places[index] = place
			if fill(index+1, place) {
				return true
			}
		}
		failed[tried{index, last}] = true
		return false
	}
	found = fill(0, -1)
	return places, found
}

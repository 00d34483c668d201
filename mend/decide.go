package mend

import (
	"cmp"
	"slices"

	"palantype/api"
)

// asked is a request, with its index.
type asked struct {
	Request
	index int
}

// end returns the index behind the words that the request replaces.
func (q asked) end() int { return q.From + q.Cut }

// question is asked of each request; if it refuses, it is with this error.
type question struct {
	refuses func(asked) bool
	with    api.Errno
}

// hearing is a report of which requests are decided.
type hearing struct {
	Report
	reading
	accepted []asked
	answers  []api.Errno // one for each request
}

// hear decides the requests.
func hear(l Lexicon, swaps []Swap, r Report, requests []Request) (h hearing, e api.Errno) {
	v, e := read(l, swaps)
	if e != api.OK {
		return hearing{}, e
	}
	if e := CheckReport(r); e != api.OK {
		return hearing{}, e
	}
	if len(requests) > api.MaxRequests {
		return hearing{}, api.ErrLimit
	}
	h = hearing{Report: r, reading: v, answers: make([]api.Errno, len(requests))}
	h.decide(taken(requests))
	return h, api.OK
}

// rule returns the order by the first of the differences, or if that is 0, by
// the next one, and so on.
func rule(differences ...func(a, b asked) int) func(a, b asked) int {
	return func(a, b asked) int {
		for _, difference := range differences {
			if n := difference(a, b); n != 0 {
				return n
			}
		}
		return 0
	}
}

// taken returns the requests in the order in which they are taken. (They are
// compared, not subtracted, as nothing is known of their numbers yet.)
func taken(requests []Request) []asked {
	var list []asked
	for i, q := range requests {
		list = append(list, asked{q, i})
	}
	byMinute := func(a, b asked) int { return cmp.Compare(a.Minute, b.Minute) }
	byMember := func(a, b asked) int { return cmp.Compare(a.By, b.By) }
	slices.SortStableFunc(list, rule(byMinute, byMember))
	return list
}

// decide answers the requests one after the other.
func (h *hearing) decide(list []asked) {
	questions := []question{
		{h.misses, api.ErrRange},
		{h.malformed, api.ErrArg},
		{h.meddles, api.ErrName},
		{h.late, api.ErrLate},
		{h.distorts, api.ErrFail},
		{h.meets, api.ErrTwice},
	}
requests:
	for _, q := range list {
		for _, x := range questions {
			if x.refuses(q) {
				h.answers[q.index] = x.with
				continue requests
			}
		}
		h.accepted = append(h.accepted, q)
	}
}

// misses reports whether the request is for words that there are not.
func (h *hearing) misses(q asked) bool {
	return q.Cut < 0 || !within(q.From, 0, len(h.Words)-q.Cut)
}

// malformed reports whether no such request can be made of any report.
func (h *hearing) malformed(q asked) bool {
	return max(q.Cut, len(q.Put)) > api.MaxPhrase || !all(q.Put, validText) ||
		q.Cut == 0 && len(q.Put) == 0 || !validMember(q.By)
}

// meddles reports whether the request is for words of others: for one at least,
// or, if it replaces none, at both sides.
func (h *hearing) meddles(q asked) bool {
	own := func(w Said) bool { return w.Speaker == q.By }
	if q.Cut > 0 {
		return !all(h.Words[q.From:q.end()], own)
	}
	beside := h.Words[max(q.From-1, 0):min(q.From+1, len(h.Words))]
	return !slices.ContainsFunc(beside, own)
}

// late reports whether the request comes too early, or too late.
func (h *hearing) late(q asked) bool {
	return !within(q.Minute, h.Out, h.Out+h.Within)
}

// distorts reports whether the request changes the sense by more than is allowed.
func (h *hearing) distorts(q asked) bool {
	return !h.keeps(h.texts(q.From, q.end()), q.Put)
}

// meets reports whether the request meets one that was accepted.
func (h *hearing) meets(q asked) bool {
	return slices.ContainsFunc(h.accepted, func(x asked) bool { return meet(x, q) })
}

// meet reports whether both requests meet. By ends alone, one with Cut 0 that
// stands inside of the other one is found as well, but not two with Cut 0.
func meet(a, b asked) bool {
	return a.From < b.end() && b.From < a.end() || a.From == b.From && a.Cut == b.Cut
}

// texts returns the texts of the words from the one index to before the other.
func (h *hearing) texts(from, to int) []string {
	var list []string
	for _, w := range h.Words[from:to] {
		list = append(list, w.Text)
	}
	return list
}

// segments returns the versions of the report. Of two requests with one From
// only one replaces words, and it stands behind the other one.
func (h *hearing) segments() []Segment {
	var list []Segment
	next := 0 // the first word that is not in a segment yet
	add := func(end int, new []string, request int) {
		list = append(list, Segment{h.texts(next, end), new, request})
		next = end
	}
	keep := func(end int) {
		if next < end {
			add(end, h.texts(next, end), -1)
		}
	}
	byFrom := func(a, b asked) int { return a.From - b.From }
	byCut := func(a, b asked) int { return a.Cut - b.Cut }
	for _, q := range slices.SortedFunc(slices.Values(h.accepted), rule(byFrom, byCut)) {
		keep(q.From)
		add(q.end(), slices.Clone(q.Put), q.index)
	}
	keep(len(h.Words))
	return list
}

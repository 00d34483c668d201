package paper

import (
	"slices"

	"palantype/api"
)

// root is the Number by which papers amend the motion; it stands among them as
// if it were the paper with that Number.
const root = 0

// within reports whether n is from lo to hi.
func within(n, lo, hi int) bool { return lo <= n && n <= hi }

// all reports whether each element of the list fits.
func all[T any](list []T, fits func(T) bool) bool {
	return !slices.ContainsFunc(list, func(x T) bool { return !fits(x) })
}

// validNumber reports whether a paper, or a question, may have the Number.
func validNumber(n int) bool { return within(n, 1, api.MaxPaper) }

// validWord reports whether the text is a word.
func validWord(text string) bool {
	return within(len(text), 1, api.MaxWordBytes) && all([]byte(text), func(b byte) bool { return within(int(b), 33, 126) })
}

// fault is an error that a motion may have, and what finds it there.
type fault struct {
	found func(Motion) bool
	e     api.Errno
}

// checkMotion returns the error of the motion, or OK.
func checkMotion(m Motion) api.Errno {
	for _, f := range []fault{
		{Motion.exceeds, api.ErrLimit},
		{Motion.malformed, api.ErrForm},
		{func(m Motion) bool { return !all(m.Papers, Paper.numbered) }, api.ErrRange},
		{func(m Motion) bool { return len(m.byNumber()) <= len(m.Papers) }, api.ErrTwice},
		{Motion.strays, api.ErrNone},
		{Motion.circles, api.ErrState},
		{Motion.misplaced, api.ErrArg},
	} {
		if f.found(m) {
			return f.e
		}
	}
	return api.OK
}

// lists returns the Words of the motion, and those of each paper.
func (m Motion) lists() [][]string {
	lists := [][]string{m.Words}
	for _, p := range m.Papers {
		lists = append(lists, p.Words)
	}
	return lists
}

// exceeds reports whether there are too many papers, or words in a list.
func (m Motion) exceeds() bool {
	return len(m.Papers) > api.MaxPapers ||
		!all(m.lists(), func(words []string) bool { return len(words) <= api.MaxListed })
}

// malformed reports whether a word is none.
func (m Motion) malformed() bool {
	return !all(m.lists(), func(words []string) bool { return all(words, validWord) })
}

// numbered reports whether the paper may have its Number.
func (p Paper) numbered() bool { return validNumber(p.Number) }

// byNumber returns the papers by their Numbers, with the motion at its root.
func (m Motion) byNumber() map[int]Paper {
	papers := map[int]Paper{root: {Words: m.Words}}
	for _, p := range m.Papers {
		papers[p.Number] = p
	}
	return papers
}

// strays reports whether a paper amends what there is not.
func (m Motion) strays() bool {
	papers := m.byNumber()
	return !all(m.Papers, func(p Paper) bool {
		_, found := papers[p.Of]
		return found
	})
}

// circles reports whether papers make a circle: whoever goes on from one of
// these takes as many steps as there are papers, and is not at the motion.
func (m Motion) circles() bool {
	papers := m.byNumber()
	found := false
search:
	for _, p := range m.Papers {
		for steps := 0; p.Of != root; steps++ {
			if steps == len(m.Papers) {
				found = true
				break search
			}
			p = papers[p.Of]
		}
	}
	return found
}

// misplaced reports whether a From or a To is not a place in what is amended.
func (m Motion) misplaced() bool {
	papers := m.byNumber()
	return !all(m.Papers, func(p Paper) bool {
		return within(p.From, 0, p.To) && p.To <= len(papers[p.Of].Words)
	})
}

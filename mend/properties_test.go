package mend_test

import (
	"slices"
	"testing"

	"palantype/api"
	"palantype/mend"
)

// decided returns what Decide and Versions do of valid arguments.
func decided(t *testing.T, w world, requests []mend.Request) ([]api.Errno, []mend.Segment) {
	t.Helper()
	answers, e := mend.Decide(w.l, w.swaps, w.r, requests)
	versions, f := mend.Versions(w.l, w.swaps, w.r, requests)
	if e != api.OK || f != api.OK || len(answers) != len(requests) {
		t.Fatalf("%v, %v: %v, %v; %v, %v", w, requests, answers, e, versions, f)
	}
	return answers, versions
}

// senses returns what Sense does of valid arguments, and trouble what Trouble
// does.
func senses(t *testing.T, l mend.Lexicon, texts []string) []mend.Mark {
	t.Helper()
	marks, e := mend.Sense(l, texts)
	if e != api.OK {
		t.Fatalf("Sense of %v, %v: %v", l, texts, e)
	}
	return marks
}

func trouble(t *testing.T, l mend.Lexicon, swaps []mend.Swap, old, new []string) int {
	t.Helper()
	n, e := mend.Trouble(l, swaps, old, new)
	if e != api.OK {
		t.Fatalf("Trouble of %v, %v, %v, %v: %v", l, swaps, old, new, e)
	}
	return n
}

// bothVersions returns all Old texts, and all New ones.
func bothVersions(versions []mend.Segment) (old, new []string) {
	for _, s := range versions {
		old, new = append(old, s.Old...), append(new, s.New...)
	}
	return old, new
}

// P4.5
func TestP4_5WordsNotSense(t *testing.T) {
	d := dice(5)
	swapped, same, marks := 0, 0, 0
	for range 4000 {
		w := d.world(12)
		requests := d.requests(w, 12)
		_, versions := decided(t, w, requests)
		old, new := bothVersions(versions)
		a, b := senses(t, w.l, old), senses(t, w.l, new)
		if !rowMayBecome(w.swaps, a, b) || trouble(t, w.l, w.swaps, old, new) != 0 {
			t.Fatalf("%v, %v: %v has become %v", w, requests, a, b)
		}
		if !slices.Equal(a, b) {
			swapped++
		}
		w.swaps = nil
		_, versions = decided(t, w, requests)
		old, new = bothVersions(versions)
		a, b = senses(t, w.l, old), senses(t, w.l, new)
		if !slices.Equal(a, b) {
			t.Fatalf("%v, %v: %v has become %v", w, requests, a, b)
		}
		if !slices.Equal(old, new) {
			same++
			marks += len(a)
		}
	}
	if swapped < 200 || same < 1000 || marks < 5000 {
		t.Errorf("%d versions with another sense, %d with the same one, of %d marks", swapped, same, marks)
	}
}

// P4.6
func TestP4_6BothVersions(t *testing.T) {
	d := dice(6)
	accepted, kept := 0, 0
	for range 4000 {
		w := d.world(12)
		requests := d.requests(w, 12)
		answers, versions := decided(t, w, requests)
		if old, _ := bothVersions(versions); !slices.Equal(old, textsOf(w.r.Words)) {
			t.Fatalf("%v, %v: the old version is %v", w, requests, old)
		}
		count := make([]int, len(requests))
		stays := false
		for _, s := range versions {
			if len(s.Old) == 0 && len(s.New) == 0 {
				t.Fatalf("%v, %v: a segment without texts in %v", w, requests, versions)
			}
			if s.Request == -1 {
				if stays || !slices.Equal(s.Old, s.New) {
					t.Fatalf("%v, %v: %v in %v", w, requests, s, versions)
				}
				stays = true
				kept++
				continue
			}
			stays = false
			q := requests[s.Request]
			if !slices.Equal(s.Old, textsOf(w.r.Words[q.From:q.From+q.Cut])) || !slices.Equal(s.New, q.Put) {
				t.Fatalf("%v, %v: %v is not %v", w, requests, s, q)
			}
			count[s.Request]++
		}
		for i, e := range answers {
			if (e == api.OK) != (count[i] == 1) || count[i] > 1 {
				t.Fatalf("%v, %v: %v, but %d segments of the request %d", w, requests, e, count[i], i)
			}
			accepted += count[i]
		}
	}
	if accepted < 4000 || kept < 5000 {
		t.Errorf("%d requests accepted, %d segments that stay", accepted, kept)
	}
}

// P4.7: no two requests have the same minute and member; they are dealt out.
func TestP4_7AnyOrder(t *testing.T) {
	d := dice(7)
	moved, twice := 0, 0
	for range 4000 {
		w := d.world(10)
		w.r.Out, w.r.Within = 0, 15
		var requests []mend.Request
		for _, q := range d.requests(w, 14) {
			if !slices.ContainsFunc(requests, func(x mend.Request) bool { return x.Minute == q.Minute && x.By == q.By }) {
				requests = append(requests, q)
			}
		}
		answers, versions := decided(t, w, requests)
		order := make([]int, len(requests)) // the index that each one had
		for i := range order {
			order[i] = i
		}
		for i := range order {
			k := d.roll(0, i)
			order[i], order[k] = order[k], order[i]
		}
		dealt := make([]mend.Request, len(requests))
		for i, k := range order {
			dealt[i] = requests[k]
			if i != k {
				moved++
			}
		}
		others, otherVersions := decided(t, w, dealt)
		for i, k := range order {
			if others[i] != answers[k] {
				t.Fatalf("%v: %v: %v; %v: %v", w, requests, answers, dealt, others)
			}
			if others[i] == api.ErrTwice {
				twice++
			}
		}
		for i := range otherVersions {
			if n := otherVersions[i].Request; n != -1 {
				otherVersions[i].Request = order[n]
			}
		}
		if !slices.EqualFunc(versions, otherVersions, sameSegment) {
			t.Fatalf("%v: %v: %v; %v: %v", w, requests, versions, dealt, otherVersions)
		}
	}
	if moved < 10000 || twice < 500 {
		t.Errorf("%d requests moved, %d meet others", moved, twice)
	}
}

// swapped returns what a request that puts the one texts for the others is
// answered.
func (w world) swapped(t *testing.T, old, new []string) api.Errno {
	t.Helper()
	w.r = mend.Report{}
	for _, text := range append(old[:len(old):len(old)], "beside") {
		w.r.Words = append(w.r.Words, mend.Said{Text: text})
	}
	answers, _ := decided(t, w, []mend.Request{{Cut: len(old), Put: new}})
	return answers[0]
}

// P4.8: of no more texts than a request may have.
func TestP4_8TroubleAndRequests(t *testing.T) {
	d := dice(8)
	count := map[api.Errno]int{}
	for range 6000 {
		w := d.world(0)
		old := d.texts(0, 6)
		new := d.texts(0, 8)
		if !d.one(3) {
			new = d.like(w, old)
			new = new[:min(len(new), 8)]
		}
		if len(old) == 0 && len(new) == 0 {
			continue
		}
		n, e := trouble(t, w.l, w.swaps, old, new), w.swapped(t, old, new)
		if e != api.OK && e != api.ErrFail || (n == 0) != (e == api.OK) {
			t.Fatalf("%v, %v, %v: %d, and %v", w, old, new, n, e)
		}
		count[e]++
	}
	if count[api.OK] < 2000 || count[api.ErrFail] < 2000 {
		t.Errorf("%v", count)
	}
}

// P4.8: how great it is.
func TestP4_8TroubleBounds(t *testing.T) {
	d := dice(81)
	least, most, less := 0, 0, 0
	for range 6000 {
		l, swaps := d.lexicon(), d.swaps(19)
		old, new := d.texts(0, 20), d.texts(0, 20)
		if d.one(2) {
			new = d.like(world{l: l, swaps: swaps}, old)
		}
		a, b := len(senses(t, l, old)), len(senses(t, l, new))
		n := trouble(t, l, swaps, old, new)
		if n > max(a, b) || n < max(a-b, b-a) {
			t.Fatalf("%v, %v, %v, %v: %d, of %d and %d marks", l, swaps, old, new, n, a, b)
		}
		if n == max(a-b, b-a) {
			least++
		} else if n == max(a, b) {
			most++
		}
		if x, y := trouble(t, l, nil, old, new), trouble(t, l, nil, new, old); x != y {
			t.Fatalf("%v, %v, %v: %d, and %d", l, old, new, x, y)
		}
		more := slices.Insert(slices.Clone(swaps), d.roll(0, len(swaps)), mend.Swap{Kind: uint8(d.roll(1, 2)), Old: d.value(), New: d.value()})
		if x := trouble(t, l, more, old, new); x > n {
			t.Fatalf("%v, %v, %v, %v: %d with %v, %d with %v", l, swaps, old, new, n, swaps, x, more)
		} else if x < n {
			less++
		}
	}
	if least < 1000 || most < 20 || less < 50 {
		t.Errorf("%d at least, %d at most, %d less with one swap more", least, most, less)
	}
}

// P4.9: not even words that are put again as they were are those of others.
func TestP4_9OwnWords(t *testing.T) {
	d := dice(9)
	differ := 0
	for range 4000 {
		w := d.world(12)
		requests := d.requests(w, 12)
		_, versions := decided(t, w, requests)
		word := 0
		for _, s := range versions {
			for range s.Old {
				if s.Request != -1 && !wanted(w, requests, word) {
					t.Fatalf("%v, %v: nobody wanted the word %d to be replaced, but there is %v", w, requests, word, s)
				}
				if s.Request != -1 {
					differ++
				}
				word++
			}
		}
	}
	if differ < 3000 {
		t.Errorf("%d words differ", differ)
	}
}

// wanted says whether its own speaker wanted, in time, to replace the word.
func wanted(w world, requests []mend.Request, word int) bool {
	return slices.ContainsFunc(requests, func(q mend.Request) bool {
		return own(w.r, q.By, word) && replaces(q, word) && w.r.Out <= q.Minute && q.Minute <= w.r.Out+w.r.Within
	})
}

// P4.10
func TestP4_10OneRequest(t *testing.T) {
	d := dice(10)
	count := map[api.Errno]int{}
	for range 3000 {
		w := d.world(12)
		requests := d.requests(w, 12)
		answers, _ := decided(t, w, requests)
		for i, q := range requests {
			alone, _ := decided(t, w, []mend.Request{q})
			if alone[0] != api.OK && answers[i] != alone[0] || answers[i] == api.OK && alone[0] != api.OK || answers[i] != alone[0] && answers[i] != api.ErrTwice {
				t.Fatalf("%v, %v: %v; %v alone: %v", w, requests, answers, q, alone)
			}
			count[answers[i]]++
		}
	}
	if count[api.OK] < 3000 || count[api.ErrTwice] < 100 || count[api.ErrFail] < 500 || count[api.ErrName] < 500 {
		t.Errorf("%v", count)
	}
}

// P4.11: texts without marks are replaced by others.
func TestP4_11NoMarks(t *testing.T) {
	d := dice(11)
	replaced := 0
	for range 4000 {
		w := d.world(0)
		marked := func(text string) bool { return len(senses(t, w.l, []string{text})) > 0 }
		old := slices.DeleteFunc(d.texts(0, 16), marked)
		new := slices.DeleteFunc(d.texts(0, 16), marked)
		old, new = old[:min(len(old), 8)], new[:min(len(new), 8)]
		if len(old) == 0 && len(new) == 0 {
			continue
		}
		if e := w.swapped(t, old, new); e != api.OK {
			t.Fatalf("%v: %v for %v: %v", w, new, old, e)
		}
		replaced++
	}
	if replaced < 3000 {
		t.Errorf("%d replaced", replaced)
	}
}

// P4.11: the sense of lists one behind the other, and in between.
func TestP4_11SenseOfTwo(t *testing.T) {
	d := dice(111)
	marks := 0
	for range 3000 {
		l := d.lexicon()
		a, b, c := d.texts(0, 20), d.texts(0, 20), d.texts(0, 20)
		all := senses(t, l, slices.Concat(a, b, c))
		if want := slices.Concat(senses(t, l, a), senses(t, l, b), senses(t, l, c)); !slices.Equal(all, want) {
			t.Fatalf("%v: the sense of %v, %v, %v is %v, not %v", l, a, b, c, all, want)
		}
		marks += len(all)
	}
	if marks < 30000 {
		t.Errorf("%d marks", marks)
	}
}

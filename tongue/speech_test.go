package tongue_test

import (
	"math"
	"slices"
	"testing"

	"palantype/api"
	"palantype/tongue"
)

// holdBehind holds that Behind returns the times, and whether the interpreter keeps
// up.
func holdBehind(t *testing.T, s tongue.Speech, most int, want []tongue.Range, keeps bool) {
	t.Helper()
	if times, k, e := tongue.Behind(s, most); !slices.Equal(times, want) || k != keeps || e != api.OK {
		t.Fatalf("Behind of %v, %d: %v, %v, %v, not %v, %v", s, most, times, k, e, want, keeps)
	}
}

// holdNoBehind holds that Behind returns the error.
func holdNoBehind(t *testing.T, s tongue.Speech, most int, want api.Errno) {
	t.Helper()
	if times, k, e := tongue.Behind(s, most); len(times) != 0 || k || e != want {
		t.Fatalf("Behind of %v, %d: %v, %v, %v, not %v", s, most, times, k, e, want)
	}
}

// speaker is the speech of the chapter's example.
func speaker() tongue.Speech {
	return tongue.Speech{Starts: []int{0, 10, 14}, Lag: 3, Needs: []tongue.Range{span(4, 6), span(5, 8), span(2, 3)}}
}

// P8.5: the example of the chapter, and others.
func TestP8_5Behind(t *testing.T) {
	times := []tongue.Range{span(7, 9), span(18, 21), span(20, 24)}
	for most, keeps := range map[int]bool{0: false, 7: false, 9: false, 10: true, 11: true, api.MaxMoment: true} {
		holdBehind(t, speaker(), most, times, keeps)
	}
	// Nobody speaks.
	holdBehind(t, tongue.Speech{Lag: 60}, 0, nil, true)
	// One sentence: it counts from when it begins.
	one := tongue.Speech{Starts: []int{100}, Lag: 2, Needs: []tongue.Range{span(3, 5)}}
	holdBehind(t, one, 6, []tongue.Range{span(105, 107)}, false)
	holdBehind(t, one, 7, []tongue.Range{span(105, 107)}, true)
	// The one before the last counts from when the last one begins.
	two := tongue.Speech{Starts: []int{0, 10}, Lag: 1, Needs: []tongue.Range{span(8, 8), span(1, 1)}}
	holdBehind(t, two, 1, []tongue.Range{span(9, 9), span(12, 12)}, false)
	holdBehind(t, two, 2, []tongue.Range{span(9, 9), span(12, 12)}, true)
	// The first one is behind, and the last one is not.
	slow := tongue.Speech{Starts: []int{0, 1, 50}, Lag: 1, Needs: []tongue.Range{span(1, 20), span(1, 1), span(1, 1)}}
	holdBehind(t, slow, 19, []tongue.Range{span(2, 21), span(3, 22), span(52, 52)}, false)
	holdBehind(t, slow, 20, []tongue.Range{span(2, 21), span(3, 22), span(52, 52)}, true)
	// The one in the middle is behind.
	slow.Starts[2] = 2
	holdBehind(t, slow, 20, []tongue.Range{span(2, 21), span(3, 22), span(4, 23)}, false)
	holdBehind(t, slow, 21, []tongue.Range{span(2, 21), span(3, 22), span(4, 23)}, true)
	// Without needing all of it, it has to wait for the speaker; with it, not.
	wait := tongue.Speech{Starts: []int{0, 5}, Lag: 2, Needs: []tongue.Range{span(1, 10), span(3, 3)}}
	holdBehind(t, wait, 10, []tongue.Range{span(3, 12), span(10, 15)}, true)
}

// P8.5: as much as there may be.
func TestP8_5Bounds(t *testing.T) {
	s := tongue.Speech{Lag: 60}
	var times []tongue.Range
	for i := range 20 {
		s.Starts = append(s.Starts, api.MaxMoment-19+i)
		s.Needs = append(s.Needs, span(1, 60))
		times = append(times, span(api.MaxMoment-19+i+61, api.MaxMoment-19+60+60*(i+1)))
	}
	last := times[19].Hi - api.MaxMoment
	holdBehind(t, s, last-1, times, false)
	holdBehind(t, s, last, times, true)
	s.Starts[0] = 0
	times[0] = span(61, 120)
	for i := 1; i < 20; i++ {
		times[i].Hi = api.MaxMoment - 18 + 60 + 60*i
	}
	holdBehind(t, s, last-60, times, false)
	holdBehind(t, s, last-59, times, true)
}

// P8.5: speeches that are refused, and a Most that is.
func TestP8_5Refused(t *testing.T) {
	wide := func(count int) []tongue.Range { return slices.Repeat([]tongue.Range{span(1, 2)}, count) }
	far := make([]int, 21)
	for i := range far {
		far[i] = i
	}
	for _, bad := range []tongue.Speech{
		{},
		{Lag: 61}, {Lag: -1}, {Lag: math.MinInt}, {Lag: math.MaxInt},
		{Lag: 1, Starts: []int{1}}, {Lag: 1, Needs: wide(1)}, {Lag: 1, Starts: []int{1, 2}, Needs: wide(1)}, {Lag: 1, Starts: []int{1, 2}, Needs: wide(3)},
		{Lag: 1, Starts: []int{1, 1}, Needs: wide(2)}, {Lag: 1, Starts: []int{2, 1}, Needs: wide(2)}, {Lag: 1, Starts: []int{1, 5, 4}, Needs: wide(3)},
		{Lag: 1, Starts: []int{-1}, Needs: wide(1)}, {Lag: 1, Starts: []int{100001}, Needs: wide(1)}, {Lag: 1, Starts: []int{math.MinInt, 0}, Needs: wide(2)}, {Lag: 1, Starts: []int{0, math.MaxInt}, Needs: wide(2)},
		{Lag: 1, Starts: far, Needs: wide(21)},
		{Lag: 0, Starts: []int{1}, Needs: wide(1)},
		{Lag: 1, Starts: []int{1}, Needs: []tongue.Range{span(0, 1)}}, {Lag: 1, Starts: []int{1}, Needs: []tongue.Range{span(0, 0)}}, {Lag: 1, Starts: []int{1}, Needs: []tongue.Range{span(1, 61)}},
		{Lag: 1, Starts: []int{1}, Needs: []tongue.Range{span(3, 2)}}, {Lag: 1, Starts: []int{1, 2}, Needs: []tongue.Range{span(1, 2), span(61, 61)}},
		{Lag: 1, Starts: []int{1}, Needs: []tongue.Range{span(math.MinInt, 1)}}, {Lag: 1, Starts: []int{1}, Needs: []tongue.Range{span(1, math.MaxInt)}},
	} {
		for _, most := range []int{1, 0, -1, 100001} { // the speech is asked first
			if faultOfSpeech(bad, most) != api.ErrArg {
				t.Fatalf("%v is right", bad)
			}
			holdNoBehind(t, bad, most, api.ErrArg)
		}
	}
	for _, most := range []int{-1, math.MinInt, 100001, math.MaxInt} {
		holdNoBehind(t, speaker(), most, api.ErrRange)
		holdNoBehind(t, tongue.Speech{Lag: 1}, most, api.ErrRange)
	}
	for _, good := range []tongue.Speech{{Lag: 1}, {Lag: 60}, {Lag: 1, Starts: far[:20], Needs: wide(20)}, {Lag: 1, Starts: []int{0, 100000}, Needs: []tongue.Range{span(1, 1), span(60, 60)}}} {
		if times, _, e := tongue.Behind(good, 0); len(times) != len(good.Starts) || e != api.OK {
			t.Errorf("Behind of %v: %v, %v", good, times, e)
		}
	}
}

// P8.5: an interpreter who is followed second by second, with all that may be
// needed.
func TestP8_5SmallSpeeches(t *testing.T) {
	d := dice(5)
	count := map[bool]int{}
	for range 3000 {
		s := d.speech(d.roll(0, 5), 3)
		times := timesOf(s)
		for most := range 25 {
			keeps := keepsUp(s, times, most)
			holdBehind(t, s, most, times, keeps)
			count[keeps]++
		}
	}
	if count[true] < 10000 || count[false] < 10000 {
		t.Errorf("%v keep up", count)
	}
}

package tongue

// least returns the end of the range at which it begins.
func (r Range) least() int { return r.Lo }

// greatest returns the other end of the range.
func (r Range) greatest() int { return r.Hi }

// done returns when the interpreter is done with each sentence, if it needs this
// end of each range.
func (s Speech) done(end func(Range) int) []int {
	var seconds []int
	free := 0
	for i, start := range s.Starts {
		free = max(start+s.Lag, free) + end(s.Needs[i])
		seconds = append(seconds, free)
	}
	return seconds
}

// times returns from when to when the interpreter may be done with each sentence.
// Who needs longer for one sentence is done sooner with none.
func (s Speech) times() []Range {
	soonest, latest := s.done(Range.least), s.done(Range.greatest)
	var times []Range
	for i := range s.Starts {
		times = append(times, Range{soonest[i], latest[i]})
	}
	return times
}

// keeps reports whether the interpreter keeps up, who is done in these times.
func (s Speech) keeps(times []Range, most int) bool {
	for i, done := range times {
		next := s.Starts[min(i+1, len(s.Starts)-1)] // there is none behind the last one
		if done.Hi > next+most {
			return false
		}
	}
	return true
}

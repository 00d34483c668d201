package take_test

import (
	"slices"

	"palantype/take"
)

// This file says again what the chapter defines, as literally and slowly as
// can be; the tests hold the package against it.

// dice is a row of numbers that look thrown, and are the same in each run.
type dice uint64

// roll returns a number from lo to hi.
func (d *dice) roll(lo, hi int) int {
	*d = *d*6364136223846793005 + 1442695040888963407
	return lo + int(uint64(*d)>>33)%(hi-lo+1)
}

func span(from, to int) take.Span { return take.Span{From: from, To: to} }

func slow(lo, hi int) take.Range { return take.Range{Lo: lo, Hi: hi} }

// sitting and office are the examples of the chapter.
func sitting() take.Sitting {
	return take.Sitting{Length: 1000, Pauses: []take.Span{span(400, 500)}, Long: 180, Short: 60}
}

func office() take.Office {
	return take.Office{Due: 400, Delay: 30, Crew: []take.Reporter{
		{Slow: slow(0, 1), Rest: 60}, {Slow: slow(1, 2)}, {Slow: slow(0, 1), Rest: 300},
	}}
}

// inPause says whether the second is in a pause.
func inPause(s take.Sitting, second int) bool {
	return slices.ContainsFunc(s.Pauses, func(p take.Span) bool { return p.From <= second && second < p.To })
}

// cutBySeconds returns the takes of a valid sitting.
func cutBySeconds(s take.Sitting) []take.Span {
	var list []take.Span
	for at := 0; at < s.Length; at++ {
		if inPause(s, at) {
			continue
		}
		first := len(list)
		end := at
		for end < s.Length && !inPause(s, end) {
			end++
		}
		for end-at >= s.Long {
			list = append(list, span(at, at+s.Long))
			at += s.Long
		}
		switch rest := end - at; {
		case rest == 0:
		case rest >= s.Short || len(list) == first:
			list = append(list, span(at, end))
		default:
			list[len(list)-1].To = end
		}
		at = end
	}
	return list
}

// doneAt says when a take is done.
func doneAt(t take.Span, x take.Real) int { return t.To + (t.To-t.From)*x.Slow + x.Delay }

// reals returns all that may come true for a take of the reporter.
func reals(o take.Office, reporter int) []take.Real {
	var list []take.Real
	for n := o.Crew[reporter].Slow.Lo; n <= o.Crew[reporter].Slow.Hi; n++ {
		for delay := 0; delay <= o.Delay; delay++ {
			list = append(list, take.Real{Slow: n, Delay: delay})
		}
	}
	return list
}

// before returns the take that the reporter of the last take of the rota had
// before it, or -1.
func before(rota []int) int {
	last := len(rota) - 1
	for i := last - 1; i >= 0; i-- {
		if rota[i] == rota[last] {
			return i
		}
	}
	return -1
}

// lastKeeps says whether the last take of the rota keeps what the chapter asks
// for, whatever comes true.
func lastKeeps(takes []take.Span, o take.Office, rota []int) bool {
	last := len(rota) - 1
	r := rota[last]
	had := before(rota)
	for _, x := range reals(o, r) {
		if doneAt(takes[last], x) > takes[last].To+o.Due {
			return false
		}
		if had >= 0 && takes[last].From < doneAt(takes[had], x)+o.Crew[r].Rest {
			return false
		}
	}
	return true
}

// isRight says whether the rota is right for its takes.
func isRight(takes []take.Span, o take.Office, rota []int) bool {
	for n := range rota {
		if !lastKeeps(takes, o, rota[:n+1]) {
			return false
		}
	}
	return true
}

// leastRight tries all rotas by their order; those reporters are asked that
// may have the take. It returns the least one that is right, or nil; and for
// how many takes, from the first one on, some rota is right.
func leastRight(takes []take.Span, o take.Office, may func(i, r int) bool) (rota []int, most int) {
	var try func(have []int) []int
	try = func(have []int) []int {
		most = max(most, len(have))
		if len(have) == len(takes) {
			return slices.Clone(have)
		}
		for r := range o.Crew {
			if next := append(slices.Clip(have), r); may(len(have), r) && lastKeeps(takes, o, next) {
				if found := try(next); found != nil {
					return found
				}
			}
		}
		return nil
	}
	return try([]int{}), most
}

func anybody(int, int) bool { return true }

// allLists returns all lists of that length with numbers less than crew.
func allLists(length, crew int) [][]int {
	lists := [][]int{{}}
	for range length {
		var longer [][]int
		for _, l := range lists {
			for r := range crew {
				longer = append(longer, append(slices.Clip(l), r))
			}
		}
		lists = longer
	}
	return lists
}

// smallSitting throws a valid sitting of few takes.
func (d *dice) smallSitting() take.Sitting {
	s := take.Sitting{Long: d.roll(2, 12)}
	s.Short = d.roll(1, s.Long)
	at := d.roll(0, 1) * d.roll(0, 5)
	if at > 0 {
		s.Pauses = append(s.Pauses, span(0, at))
	}
	for range d.roll(0, 3) {
		from := at + d.roll(1, 3*s.Long)
		at = from + d.roll(1, 2*s.Long)
		s.Pauses = append(s.Pauses, span(from, at))
	}
	s.Length = at + d.roll(1, 3*s.Long)
	if at > 0 && d.roll(0, 3) == 0 {
		s.Length = at
	}
	return s
}

// smallOffice throws a valid office for which a small sitting is hard.
func (d *dice) smallOffice(most int) take.Office {
	o := take.Office{Due: d.roll(0, 40), Delay: d.roll(0, 3)}
	for range d.roll(1, most) {
		hi := d.roll(0, 3)
		o.Crew = append(o.Crew, take.Reporter{Slow: slow(d.roll(0, hi), hi), Rest: d.roll(0, 1) * d.roll(0, 60)})
	}
	return o
}

// list throws a list of reporters of the crew.
func (d *dice) list(length, crew int) []int {
	l := make([]int, length)
	for i := range l {
		l[i] = d.roll(0, crew-1)
	}
	return l
}

// real throws what comes true for the rota: anything, or (often) an end.
func (d *dice) real(o take.Office, rota []int) []take.Real {
	l := make([]take.Real, len(rota))
	for i, r := range rota {
		n := o.Crew[r].Slow
		switch d.roll(0, 3) {
		case 0:
			l[i] = take.Real{Slow: n.Lo}
		case 1:
			l[i] = take.Real{Slow: n.Hi, Delay: o.Delay}
		default:
			l[i] = take.Real{Slow: d.roll(n.Lo, n.Hi), Delay: d.roll(0, o.Delay)}
		}
	}
	return l
}

// rightRota throws a right rota for the takes, or returns nil.
func (d *dice) rightRota(takes []take.Span, o take.Office) []int {
	first, _ := leastRight(takes, o, anybody)
	for range 20 {
		want := d.list(len(takes), len(o.Crew))
		for i := range want {
			if d.roll(0, 2) == 0 {
				want[i] = -1 // whoever comes
			}
		}
		if l, _ := leastRight(takes, o, func(i, r int) bool { return want[i] < 0 || want[i] == r }); l != nil {
			return l
		}
	}
	return first
}

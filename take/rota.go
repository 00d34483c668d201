package take

import (
	"palantype/api"
)

// service is a sitting at an office; both are valid.
type service struct {
	Sitting
	Office
	takes []Span
}

// standing tells, for each reporter, what the last take that it had leaves:
// the first take that begins when the reporter is surely free again. (0: it
// had none.) Nothing else of what a reporter had counts for later takes.
type standing [api.MaxCrew]int

// at returns the standing without what does not count any more at the take, so
// that standings are the same if they allow the same.
func (had standing) at(take int) standing {
	for r := range had {
		if had[r] <= take {
			had[r] = 0
		}
	}
	return had
}

// place is where a rota that is looked for may stand: the next take, and the
// standing of the reporters.
type place struct {
	take int
	had  standing
}

// chooser tells whether a reporter may have a take, as the reporters stand.
type chooser func(had standing, take, reporter int) bool

// validOffice reports whether the office is as it has to be.
func validOffice(o Office) bool {
	if !within(len(o.Crew), 1, api.MaxCrew) || !within(o.Due, 0, api.MaxDue) || !within(o.Delay, 0, api.MaxDue) {
		return false
	}
	return every(o.Crew, func(_ int, r Reporter) bool {
		return within(r.Slow.Lo, 0, r.Slow.Hi) && r.Slow.Hi <= api.MaxSlow && within(r.Rest, 0, api.MaxDue)
	})
}

// serve returns the sitting at the office, or the first error of them.
func serve(s Sitting, o Office) (service, api.Errno) {
	list, e := cut(s)
	if e != api.OK {
		return service{}, e
	}
	if e := CheckOffice(o); e != api.OK {
		return service{}, e
	}
	return service{s, o, list}, api.OK
}

// staffs reports whether the rota has one reporter of the crew for each take.
func (v service) staffs(rota []int) bool {
	return len(rota) == len(v.takes) && every(rota, func(_ int, r int) bool {
		return within(r, 0, len(v.Crew)-1)
	})
}

// realistic reports whether there is one Real for each take, that its reporter
// and the delay of the office allow.
func (v service) realistic(rota []int, real []Real) bool {
	return len(real) == len(rota) && every(real, func(i int, x Real) bool {
		slow := v.Crew[rota[i]].Slow
		return within(x.Slow, slow.Lo, slow.Hi) && within(x.Delay, 0, v.Delay)
	})
}

// done returns when the take is done.
func (v service) done(take int, x Real) int {
	t := v.takes[take]
	return sum(t.To, (t.To-t.From)*x.Slow, x.Delay)
}

// latest returns when the reporter has surely done the take.
func (v service) latest(take, reporter int) int {
	return v.done(take, Real{v.Crew[reporter].Slow.Hi, v.Delay})
}

// again returns the first take that the reporter may begin after this one.
func (v service) again(take, reporter int) int {
	free := sum(v.latest(take, reporter), v.Crew[reporter].Rest)
	next := take + 1
	for next < len(v.takes) && v.takes[next].From < free {
		next++
	}
	return next
}

// mayHave reports whether the reporter is surely free for the take, and surely
// not late with it.
func (v service) mayHave(had standing, take, reporter int) bool {
	return had[reporter] <= take && v.latest(take, reporter) <= v.takes[take].To+v.Due
}

// right reports whether a rota that staffs the takes is a right one.
func (v service) right(rota []int) bool {
	var had standing
	for take, reporter := range rota {
		if !v.mayHave(had, take, reporter) {
			return false
		}
		had[reporter] = v.again(take, reporter)
	}
	return true
}

// without returns the chooser of the rotas after the reporter is relieved at
// the second; the rota, which is right, stays for the takes that begin before.
func (v service) without(rota []int, relieved, second int) chooser {
	return func(had standing, take, reporter int) bool {
		if v.takes[take].From < second {
			return reporter == rota[take]
		}
		return reporter != relieved && v.mayHave(had, take, reporter)
	}
}

// open returns those takes of the reporter that begin before the second, and
// may be done after it.
func (v service) open(rota []int, reporter, second int) []int {
	var list []int
	for take, t := range v.takes {
		if rota[take] == reporter && t.From < second && v.latest(take, reporter) > second {
			list = append(list, take)
		}
	}
	return list
}

// look returns the least of all rotas that may be, and how many takes, from the
// first one on, can have reporters together. (If these are all, there is a
// rota; otherwise the rota means nothing.) Reporters are tried from the least
// one on, so the first rota that is found is the least. Without the places that
// were tried already this would take for ever where some late take fails.
func (v service) look(may chooser) (rota []int, reached int) {
	tried := map[place]bool{} // nothing goes on from these
	var give func(take int, had standing) bool
	give = func(take int, had standing) bool {
		reached = max(reached, take)
		if take == len(v.takes) {
			return true
		}
		here := place{take, had.at(take)}
		if tried[here] {
			return false
		}
		for r := range v.Crew {
			if !may(had, take, r) {
				continue
			}
			next := had
			next[r] = v.again(take, r)
			rota = append(rota, r)
			if give(take+1, next) {
				return true
			}
			rota = rota[:take]
		}
		tried[here] = true
		return false
	}
	give(0, standing{})
	return rota, reached
}

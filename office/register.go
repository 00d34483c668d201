package office

import (
	"palantype/api"
)

// since is from when on a person has a name.
type since struct{ person, day int }

// register is a valid roll, with its names as they are looked for.
type register struct {
	Roll
	names map[since]string
}

// read returns the register of the roll, or the error of the roll.
func read(r Roll) (register, api.Errno) {
	switch {
	case !validRoll(r):
		return register{}, api.ErrArg
	case len(r.Names) > api.MaxCalled:
		return register{}, api.ErrLimit
	case !all(r.Names, r.validName):
		return register{}, api.ErrArg
	}
	names := map[since]string{}
	for _, c := range r.Names {
		names[since{c.Person, c.Day}] = c.Text
	}
	if len(names) < len(r.Names) {
		return register{}, api.ErrTwice
	}
	return register{r, names}, api.OK
}

// ask returns the register of a roll that is asked for a number, of as many as
// there are of its kind, and a day; or the error of that.
func ask(r Roll, number, count, day int) (register, api.Errno) {
	v, e := read(r)
	if e != api.OK {
		return register{}, e
	}
	if !within(number, 0, count-1) || !calendar().has(day) {
		return register{}, api.ErrRange
	}
	return v, api.OK
}

// called returns what the person is called on the day, and whether there is such
// a name.
func (v register) called(person, day int) (text string, named bool) {
	latest := since{person, -1}
	for at := range v.names {
		if at.person == person && at.day <= day {
			latest.day = max(latest.day, at.day)
		}
	}
	text, named = v.names[latest]
	return text, named
}

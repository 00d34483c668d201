package floor

// place is where a telling stands between two moments. All that stand at the
// same one may go on in the same ways, whatever came before.
type place struct {
	holder int  // who had the floor last, or nobody
	turn   int  // how many moments the turn has so far
	cry    int  // how many moments the interjection has so far
	own    bool // whether the last Voice was the Holder
}

// start is where all tellings stand at the beginning.
func start() place { return place{holder: nobody, own: true} }

// among reports whether this person, or nobody, is in the set.
func (v view) among(set uint16, who int) bool {
	return within(who, nobody, v.Persons-1) && set&bit(who) != 0
}

// mayEnd reports whether the next moment may have another Holder, or none.
func (v view) mayEnd(at place) bool {
	return at.holder == nobody || at.own && at.turn >= v.Least
}

// follow returns where a telling stands behind a moment that has this part, and
// whether it may have it. Nothing is asked of a turn that is not over: the end
// of the scene may cut it off anywhere.
func (v view) follow(m Moment, from place, p Part) (to place, may bool) {
	to = place{holder: p.Holder, own: p.Voice == p.Holder}
	switch {
	case !v.among(m.Floor, p.Holder) || !v.among(m.Heard, p.Voice):
		return to, false
	case p.Holder == nobody:
		return to, to.own && v.mayEnd(from)
	case p.Holder != from.holder:
		to.turn = 1
		return to, to.own && v.mayEnd(from)
	}
	to.turn = from.turn + 1
	if !to.own && p.Voice != nobody {
		to.cry = from.cry + 1
	}
	return to, to.turn <= v.Most && to.cry <= v.Short
}

// right reports whether the telling is a right one.
func (v view) right(telling []Part) bool {
	if len(telling) != len(v.Moments) {
		return false
	}
	at, right := start(), true
parts:
	for t, p := range telling {
		switch to, may := v.follow(v.Moments[t], at, p); {
		case !may:
			right = false
			break parts // whatever comes, it stays wrong
		default:
			at = to
		}
	}
	return right
}

// heard returns who may be the Voice of a moment, if a telling stands at this
// place behind it.
func heard(m Moment, at place) uint16 {
	switch {
	case at.own:
		return bit(at.holder)
	case at.cry > 0:
		return others(m.Heard, at.holder)
	}
	return Nobody
}

package route

import "dunnage/api"

// none is the arrival of a leg without a route.
const none = -1

// lane is a leg, with the ground of its tenant, and the stops that are free on it.
type lane struct {
	ground
	leg  api.Leg
	free table[bool]
}

// laneOf returns the lane of a tenant's leg: Check's error, and ErrArg unless the tenant is present and the leg is one of its.
func laneOf(c api.Config, t int, leg api.Leg) (lane, api.Errno) {
	g, e := groundOf(c, t)
	if e != api.OK {
		return lane{}, e
	}
	if !g.has(leg.From) || !g.has(leg.To) || !g.own[leg.To] || !g.own[leg.From] && !g.isAisle[leg.From] {
		return lane{}, api.ErrArg
	}
	return g.laneFor(leg), api.OK
}

// laneAt returns the lane of a tenant's leg, and the stop of its first place at a tick: laneOf's error, and ErrArg if the tick is too late.
func laneAt(c api.Config, t int, leg api.Leg, tick uint64) (lane, stop, api.Errno) {
	l, e := laneOf(c, t, leg)
	if e != api.OK {
		return lane{}, stop{}, e
	}
	if tick > api.MaxLook {
		return lane{}, stop{}, api.ErrArg
	}
	return l, l.at(leg.From, tick), api.OK
}

// laneFor returns the lane of a leg of the tenant.
func (g ground) laneFor(leg api.Leg) lane {
	l := lane{ground: g, leg: leg}
	l.free = tableOf(g.places(), g.period(), func(s stop) bool { return l.isCell(s.place) && g.allows(s) })
	return l
}

// isCell reports whether a place is a cell of the leg.
func (l lane) isCell(p int) bool {
	return p == l.leg.From || p == l.leg.To || l.isAisle[p] || l.own[p] && !l.isSpot[p]
}

// arrivals returns, for each stop, in how many ticks one who is there can be at the goal, if each stop after it is free on the leg.
func (l lane) arrivals() table[int] {
	found := tableOf(l.places(), l.period(), func(stop) int { return none })
	var queue []stop
	for phase := range l.period() {
		goal := stop{l.leg.To, phase}
		found.put(goal, 0)
		queue = append(queue, goal)
	}
	// No stop is passed twice on the way, so that no arrival exceeds MaxRoute.
	for len(queue) > 0 {
		s := queue[0]
		queue = queue[1:]
		for p := range l.reachable(s.place) {
			before := l.earlier(s, p)
			if found.at(before) != none {
				continue
			}
			found.put(before, found.at(s)+1)
			// A stop that is not free can be the first one of a walk, but none after it.
			if l.free.at(before) {
				queue = append(queue, before)
			}
		}
	}
	return found
}

// timetable returns the arrivals of the leg from each tick of a period on.
func (l lane) timetable() []int {
	found := l.arrivals()
	list := make([]int, l.period())
	for phase := range list {
		list[phase] = found.at(stop{l.leg.From, phase})
	}
	return list
}

// route returns the places of the route that begins at a stop with an arrival.
func (l lane) route(s stop, found table[int]) []int {
	places := []int{s.place}
	for range found.at(s) {
		s = l.next(s, found)
		places = append(places, s.place)
	}
	return places
}

// next returns the stop that comes next on the route, after a stop whose arrival is more than 0.
func (l lane) next(s stop, found table[int]) stop {
	// Each place has its arrival on a leg of its own, which does not lead back through this leg's first place if that is a spot. The arrivals found here allow that, and are the same where it matters: who comes back to a spot could have waited there, and waiting is tried first.
	for p := range l.reachable(s.place) {
		after := l.later(s, p)
		if l.free.at(after) && found.at(after) == found.at(s)-1 {
			return after
		}
	}
	return s
}

// after returns, place by place, whether it can be reached in a tick from one of the places that are marked, at a phase.
func (l lane) after(marked []bool, phase int) []bool {
	reached := make([]bool, len(marked))
	for p, isMarked := range marked {
		if !isMarked {
			continue
		}
		for q := range l.reachable(p) {
			reached[q] = l.free.at(l.later(stop{p, phase}, q))
		}
	}
	return reached
}

// isWalk reports whether a list is a walk that begins at a stop, and ends at the goal.
func (l lane) isWalk(s stop, list []int) bool {
	if len(list) == 0 || list[0] != s.place {
		return false
	}
	for _, p := range list[1:] {
		if !l.leads(s, p) {
			return false
		}
		s = l.later(s, p)
	}
	return s.place == l.leg.To
}

// leads reports whether a walk can lead from a stop to a place, if that is one.
func (l lane) leads(s stop, p int) bool {
	for q := range l.reachable(s.place) {
		if q == p {
			return l.free.at(l.later(s, p))
		}
	}
	return false
}

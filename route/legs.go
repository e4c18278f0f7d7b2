package route

import (
	"slices"

	"dunnage/api"
	"dunnage/config"
)

// Legs returns the legs of a tenant.
func Legs(c api.Config, t int) ([]api.Leg, api.Errno) {
	g, e := groundOf(c, t)
	if e != api.OK {
		return nil, e
	}
	return legsOf(g.team), api.OK
}

// Sound returns ErrRoute unless a config is sound.
func Sound(c api.Config) api.Errno {
	tenants, e := config.Tenants(c)
	if e != api.OK {
		return e
	}
	for _, t := range tenants {
		g, e := groundOf(c, t)
		if e != api.OK {
			return e
		}
		if g.longest() == none {
			return api.ErrRoute
		}
	}
	return api.OK
}

// Longest returns the longest leg of a tenant.
func Longest(c api.Config, t int) (int, api.Errno) {
	g, e := groundOf(c, t)
	if e != api.OK {
		return 0, e
	}
	if e := Sound(c); e != api.OK {
		return 0, e
	}
	return g.longest(), api.OK
}

// Bound returns the bound of a tenant.
func Bound(c api.Config, t int) (int, api.Errno) {
	longest, e := Longest(c, t)
	if e != api.OK {
		return 0, e
	}
	m := c.Teams[t]
	robots := len(m.Homes)
	return (m.Queue + robots + 1) * (4*robots + 8) * (longest + m.Load + m.Unload + 4), api.OK
}

// legsOf returns the legs of a team: from homes to picks, from picks to drops, and from drops to homes.
func legsOf(m api.Team) []api.Leg {
	return slices.Concat(legsBetween(m.Homes, m.Picks), legsBetween(m.Picks, m.Drops), legsBetween(m.Drops, m.Homes))
}

// legsBetween returns the legs from each of some places to each of some others.
func legsBetween(from, to []int) []api.Leg {
	var legs []api.Leg
	for _, p := range from {
		for _, q := range to {
			legs = append(legs, api.Leg{From: p, To: q})
		}
	}
	return legs
}

// longest returns the greatest arrival of the tenant's legs, or none if one of them has no route from some tick on.
func (g ground) longest() int {
	most := 0
	for _, leg := range legsOf(g.team) {
		list := g.laneFor(leg).timetable()
		if slices.Contains(list, none) {
			return none
		}
		most = max(most, slices.Max(list))
	}
	return most
}

package route

import (
	"iter"

	"dunnage/api"
	"dunnage/config"
	"dunnage/floor"
)

// ground is a valid config as one of its tenants sees it: what it owns, place by place, and whose the aisles are, phase by phase of the period.
type ground struct {
	w, h                 int
	own, isAisle, isSpot []bool
	isMine               []bool
	team                 api.Team
}

// groundOf returns the ground of a tenant: Check's error, and ErrArg unless the tenant is present.
func groundOf(c api.Config, t int) (ground, api.Errno) {
	present, e := config.Present(c, t)
	if e != api.OK {
		return ground{}, e
	}
	if !present {
		return ground{}, api.ErrArg
	}
	private, e := floor.Private(c.Floor, t)
	if e != api.OK {
		return ground{}, e
	}
	aisles, e := floor.Aisles(c.Floor)
	if e != api.OK {
		return ground{}, e
	}
	g := ground{w: c.Floor.W, h: c.Floor.H, team: c.Teams[t]}
	g.own, g.isAisle, g.isSpot = g.marks(private), g.marks(aisles), g.marks(config.Spots(g.team))
	for phase := range c.Slices {
		owner, e := floor.SliceOwner(c.Slices, uint64(phase))
		if e != api.OK {
			return ground{}, e
		}
		g.isMine = append(g.isMine, owner == t)
	}
	return g, api.OK
}

// places returns the number of places.
func (g ground) places() int { return g.w * g.h }

// has reports whether a number is a place.
func (g ground) has(p int) bool { return p >= 0 && p < g.places() }

// marks returns, for each place, whether a list has it.
func (g ground) marks(list []int) []bool {
	marked := make([]bool, g.places())
	for _, p := range list {
		marked[p] = true
	}
	return marked
}

// period returns the number of entries of the slice table.
func (g ground) period() int { return len(g.isMine) }

// at returns the stop of a place at a tick.
func (g ground) at(p int, tick uint64) stop { return stop{p, int(tick % uint64(g.period()))} }

// later returns the stop of a place one tick after another stop.
func (g ground) later(s stop, p int) stop { return stop{p, (s.phase + 1) % g.period()} }

// earlier returns the stop of a place one tick before another stop.
func (g ground) earlier(s stop, p int) stop {
	return stop{p, (s.phase + g.period() - 1) % g.period()}
}

// allows reports whether the tenant is allowed at a stop.
func (g ground) allows(s stop) bool {
	return g.own[s.place] || g.isAisle[s.place] && g.isMine[s.phase]
}

// steps ranges over the places one step from a place: north, east, south and west of it.
func (g ground) steps(p int) iter.Seq[int] {
	return func(yield func(q int) bool) {
		for dir := api.North; dir <= api.West; dir++ {
			q, e := floor.Step(g.w, g.h, p, dir)
			if e == api.OK && !yield(q) {
				return
			}
		}
	}
}

// reachable ranges over the places where one who is at a place can be a tick later: there, and one step from it.
func (g ground) reachable(p int) iter.Seq[int] {
	return func(yield func(q int) bool) {
		if !yield(p) {
			return
		}
		for q := range g.steps(p) {
			if !yield(q) {
				return
			}
		}
	}
}

package traffic

import (
	"maps"
	"slices"

	"dunnage/api"
	"dunnage/config"
	"dunnage/crew"
	"dunnage/route"
)

// nobody is the Mover of a crew of which no robot is on a leg.
const nobody = -1

// yard is the working form of a fleet, with the config that it is valid for, the present tenants of that, and the orders that were done.
type yard struct {
	c       api.Config
	tenants []int
	crews   []api.Crew
	claims  table
	tick    uint64
	done    []api.Finish
}

// yardOf returns the working form of a fleet, in memory of its own: Check's error.
func yardOf(c api.Config, f api.Fleet) (*yard, api.Errno) {
	tenants, e := config.Tenants(c)
	if e != api.OK {
		return nil, e
	}
	if len(f.Crews) != len(c.Teams) || f.Tick > api.MaxTick {
		return nil, api.ErrBad
	}
	claims, e := tableOf(f.Claims)
	if e != api.OK {
		return nil, api.ErrBad
	}
	y := &yard{c: c, tenants: tenants, claims: claims, tick: f.Tick}
	for _, w := range f.Crews {
		y.crews = append(y.crews, copyCrew(w))
	}
	if !y.hasRightCrews() || !y.hasRightClaims() {
		return nil, api.ErrBad
	}
	return y, api.OK
}

// fleet returns the fleet as it is now.
func (y *yard) fleet() api.Fleet {
	return api.Fleet{Crews: y.crews, Claims: y.claims.list(), Tick: y.tick}
}

// isPresent reports whether a number, of any size, is one of a present tenant.
func (y *yard) isPresent(t int) bool { return slices.Contains(y.tenants, t) }

// hasRightCrews reports whether the crews of present tenants are valid, and those of absent ones empty.
func (y *yard) hasRightCrews() bool {
	for t, w := range y.crews {
		isRight := isEmpty(w)
		if y.isPresent(t) {
			isRight = crew.Check(y.c, t, w, y.tick) == api.OK
		}
		if !isRight {
			return false
		}
	}
	return true
}

// hasRightClaims reports whether the table has the claims of some crews, if these are right, and no other ones.
func (y *yard) hasRightClaims() bool {
	wanted := emptyTable()
	for _, t := range y.tenants {
		// Claims of a robot that is not the Mover are never wanted, and so the two tables differ if there are any.
		if y.claims.has(y.isMovers(t)) && y.putClaims(wanted, t) != api.OK {
			return false
		}
	}
	return maps.Equal(wanted.claims, y.claims.claims)
}

// isMovers returns the condition that a claim is one of a tenant's Mover; it never holds if there is none.
func (y *yard) isMovers(t int) func(x api.Claim) bool { return isOf(t, y.crews[t].Mover) }

// putClaims adds the claims of a crew with a Mover to a table.
func (y *yard) putClaims(a table, t int) api.Errno {
	w := y.crews[t]
	goal, e := crew.Goal(y.c, t, w, w.Mover, y.tick)
	if e != api.OK {
		return e
	}
	places, e := route.Route(y.c, t, api.Leg{From: w.Robots[w.Mover].Place, To: goal}, y.tick)
	if e != api.OK {
		return e
	}
	for i, p := range places[1:] {
		if e := a.reserve(api.Claim{Tick: y.tick + 1 + uint64(i), Place: p, Tenant: t, Robot: w.Mover}); e != api.OK {
			return e
		}
	}
	return api.OK
}

// isEmpty reports whether a crew is such as an absent tenant has.
func isEmpty(w api.Crew) bool { return crew.Same(w, api.Crew{Mover: nobody}) }

// copyCrew returns a crew that shares no memory with the given one.
func copyCrew(w api.Crew) api.Crew {
	w.Robots = slices.Clone(w.Robots)
	w.Book.Orders, w.Book.Queue = slices.Clone(w.Book.Orders), slices.Clone(w.Book.Queue)
	return w
}

package route_test

import (
	"slices"
	"testing"

	"dunnage/api"
	"dunnage/config"
	"dunnage/route"
)

// projected returns the projection of a config to a tenant.
func projected(t *testing.T, c api.Config, tenant int) api.Config {
	t.Helper()
	o, e := config.Only(c, tenant)
	wantErrno(t, "Only", e, api.OK)
	return o
}

// allowedAt returns, place by place, the tenant that is allowed there at a tick, or -1; no two may be.
func allowedAt(t *testing.T, c api.Config, tick uint64) []int {
	t.Helper()
	owners := repeated(-1, len(c.Floor.Cells))
	for tenant, m := range c.Teams {
		if len(m.Homes) == 0 {
			continue
		}
		for p := range owners {
			is, e := route.Allowed(c, tenant, p, tick)
			wantErrno(t, "Allowed", e, api.OK)
			if is && owners[p] >= 0 {
				t.Errorf("the tenants %d and %d are allowed at %d at the tick %d", owners[p], tenant, p, tick)
			}
			if is {
				owners[p] = tenant
			}
		}
	}
	return owners
}

// P4.7: no two tenants are allowed at one place at one tick, and no two of them can exchange two places.
func TestTenantsDoNotMeet(t *testing.T) {
	for _, c := range slices.Concat(smallConfigs(), largeConfigs()) {
		for _, tick := range ticksOf(c) {
			if tick == api.MaxLook {
				continue
			}
			before, after := allowedAt(t, c, tick), allowedAt(t, c, tick+1)
			for p := range before {
				for _, q := range specAround(c.Floor, p)[1:] {
					one, other := before[p], before[q]
					if one >= 0 && other >= 0 && one != other && after[q] == one && after[p] == other {
						t.Errorf("the tenants %d and %d can exchange %d and %d at the tick %d", one, other, p, q, tick)
					}
				}
			}
		}
	}
}

// P4.7: one period later all is the same.
func TestNextPeriodIsTheSame(t *testing.T) {
	eachTrip(func(c api.Config, tenant int, g api.Leg) {
		period := uint64(len(c.Slices))
		for _, tick := range []uint64{0, 1, 4, api.MaxLook - period} {
			later := tick + period
			n, e := route.Arrival(c, tenant, g, tick)
			again, eAgain := route.Arrival(c, tenant, g, later)
			wantInt(t, "Arrival", again, eAgain, n, e)
			n, e = route.Next(c, tenant, g, tick)
			again, eAgain = route.Next(c, tenant, g, later)
			wantInt(t, "Next", again, eAgain, n, e)
			l, e := route.Route(c, tenant, g, tick)
			lAgain, eAgain := route.Route(c, tenant, g, later)
			wantInts(t, "Route", lAgain, eAgain, l, e)
			l, e = route.Reach(c, tenant, g, tick, 6)
			lAgain, eAgain = route.Reach(c, tenant, g, later, 6)
			wantInts(t, "Reach", lAgain, eAgain, l, e)
			is, e := route.Free(c, tenant, g, g.From, tick)
			isAgain, eAgain := route.Free(c, tenant, g, g.From, later)
			wantBool(t, "Free", isAgain, eAgain, is, e)
			is, e = route.Allowed(c, tenant, g.From, tick)
			isAgain, eAgain = route.Allowed(c, tenant, g.From, later)
			wantBool(t, "Allowed", isAgain, eAgain, is, e)
		}
	})
}

// eachRoute calls a function with routes of legs.
func eachRoute(t *testing.T, do func(c api.Config, tenant int, g api.Leg, tick uint64, l []int)) {
	eachTrip(func(c api.Config, tenant int, g api.Leg) {
		for _, tick := range []uint64{0, 2, api.MaxLook - api.MaxRoute - 16} {
			l, e := route.Route(c, tenant, g, tick)
			if e == api.OK {
				do(c, tenant, g, tick, l)
			} else {
				wantErrno(t, "Route", e, api.ErrRoute)
			}
		}
	})
}

// P4.7: a route is a walk, and no walk to the goal has fewer places.
func TestRoutesAreEarliestWalks(t *testing.T) {
	eachRoute(t, func(c api.Config, tenant int, g api.Leg, tick uint64, l []int) {
		is, e := route.Walk(c, tenant, g, tick, l)
		wantBool(t, "Walk", is, e, true, api.OK)
		n, e := route.Arrival(c, tenant, g, tick)
		wantInt(t, "Arrival", n, e, len(l)-1, api.OK)
		ends, e := route.Reach(c, tenant, g, tick, n)
		if !slices.Contains(ends, g.To) || e != api.OK {
			t.Errorf("Reach: %v, %d, want %d in it", ends, e, g.To)
		}
		for fewer := max(n-3, 0); fewer < n; fewer++ {
			ends, e := route.Reach(c, tenant, g, tick, fewer)
			if slices.Contains(ends, g.To) || e != api.OK {
				t.Errorf("Reach: %v, %d, want no %d in it", ends, e, g.To)
			}
		}
	})
}

// P4.7: what is left of a route after its first place is the route from the second place, one tick later.
func TestRestOfARouteIsARoute(t *testing.T) {
	eachRoute(t, func(c api.Config, tenant int, g api.Leg, tick uint64, l []int) {
		if len(l) == 1 {
			return
		}
		p, e := route.Next(c, tenant, g, tick)
		wantInt(t, "Next", p, e, l[1], api.OK)
		rest, e := route.Route(c, tenant, api.Leg{From: l[1], To: g.To}, tick+1)
		wantInts(t, "Route", rest, e, l[1:], api.OK)
	})
}

// P4.7: whoever waits a whole period at a private cell of a route has the same places before it as before.
func TestWaitingAPeriodOnARoute(t *testing.T) {
	eachRoute(t, func(c api.Config, tenant int, g api.Leg, tick uint64, l []int) {
		period := len(c.Slices)
		for i, p := range l {
			if c.Floor.Cells[p] == api.CellAisle || i%3 != 0 && i != len(l)-1 {
				continue
			}
			rest, e := route.Route(c, tenant, api.Leg{From: p, To: g.To}, tick+uint64(i+period))
			wantInts(t, "Route", rest, e, l[i:], api.OK)
			if len(l)+period > api.MaxRoute+1 {
				continue
			}
			is, e := route.Walk(c, tenant, g, tick, slices.Concat(l[:i], repeated(p, period), l[i:]))
			wantBool(t, "Walk", is, e, true, api.OK)
		}
	})
}

// P4.7, N2: the config of the tenant alone has the same routes.
func TestRoutesOfTheTenantAlone(t *testing.T) {
	eachTrip(func(c api.Config, tenant int, g api.Leg) {
		alone := projected(t, c, tenant)
		l, e := route.Cells(c, tenant, g)
		own, eOwn := route.Cells(alone, tenant, g)
		wantInts(t, "Cells", own, eOwn, l, e)
		l, e = route.Timetable(c, tenant, g)
		own, eOwn = route.Timetable(alone, tenant, g)
		wantInts(t, "Timetable", own, eOwn, l, e)
		for _, tick := range []uint64{0, 3, api.MaxLook} {
			l, e = route.Route(c, tenant, g, tick)
			own, eOwn = route.Route(alone, tenant, g, tick)
			wantInts(t, "Route", own, eOwn, l, e)
			l, e = route.Reach(c, tenant, g, tick, 9)
			own, eOwn = route.Reach(alone, tenant, g, tick, 9)
			wantInts(t, "Reach", own, eOwn, l, e)
		}
		for p := range c.Floor.Cells {
			is, e := route.Free(c, tenant, g, p, 2)
			isOwn, eOwn := route.Free(alone, tenant, g, p, 2)
			wantBool(t, "Free", isOwn, eOwn, is, e)
		}
	})
}

// P4.7: in a sound config a tenant alone has the same legs, longest leg and bound.
func TestBoundOfTheTenantAlone(t *testing.T) {
	eachTenant(func(c api.Config, tenant int) {
		alone := projected(t, c, tenant)
		legs, e := route.Legs(c, tenant)
		ownLegs, eOwn := route.Legs(alone, tenant)
		wantLegs(t, "Legs", ownLegs, eOwn, legs, e)
		if route.Sound(c) != api.OK {
			return
		}
		wantErrno(t, "Sound", route.Sound(alone), api.OK)
		n, e := route.Longest(c, tenant)
		own, eOwn := route.Longest(alone, tenant)
		wantInt(t, "Longest", own, eOwn, n, e)
		n, e = route.Bound(c, tenant)
		own, eOwn = route.Bound(alone, tenant)
		wantInt(t, "Bound", own, eOwn, n, e)
	})
}

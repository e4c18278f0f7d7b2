package traffic_test

import (
	"slices"
	"sort"

	"dunnage/api"
	"dunnage/config"
	"dunnage/crew"
	"dunnage/route"
)

// The functions of this file restate the chapter's definitions as literally as possible, with what lower layers return.

// specInRange reports whether a claim is in range.
func specInRange(x api.Claim) bool {
	return x.Tick <= 1<<62+2048 && x.Place >= 0 && x.Place <= 63 && x.Tenant >= 0 && x.Tenant <= 2 && x.Robot >= 0 && x.Robot <= 2
}

// specCheckTable returns what CheckTable returns.
func specCheckTable(l []api.Claim) api.Errno {
	if len(l) > 4096 {
		return api.ErrMany
	}
	for i, x := range l {
		if !specInRange(x) {
			return api.ErrBad
		}
		for _, y := range l[:i] {
			isBefore := y.Tick < x.Tick || y.Tick == x.Tick && y.Place < x.Place
			if !isBefore || y.Tick == x.Tick && y.Tenant == x.Tenant && y.Robot == x.Robot {
				return api.ErrBad
			}
		}
	}
	return api.OK
}

// specReserve returns what Reserve returns.
func specReserve(l []api.Claim, x api.Claim) ([]api.Claim, api.Errno) {
	if e := specCheckTable(l); e != api.OK {
		return nil, e
	}
	if !specInRange(x) {
		return nil, api.ErrArg
	}
	for _, y := range l {
		if y.Tick == x.Tick && (y.Place == x.Place || y.Tenant == x.Tenant && y.Robot == x.Robot) {
			return nil, api.ErrTaken
		}
	}
	if len(l) == 4096 {
		return nil, api.ErrFull
	}
	return specSorted(append(slices.Clone(l), x)), api.OK
}

// specSorted returns claims in the order of a table.
func specSorted(l []api.Claim) []api.Claim {
	l = slices.Clone(l)
	sort.Slice(l, func(i, j int) bool {
		return l[i].Tick < l[j].Tick || l[i].Tick == l[j].Tick && l[i].Place < l[j].Place
	})
	return l
}

// specWithout returns the claims for which a condition does not hold.
func specWithout(l []api.Claim, holds func(x api.Claim) bool) []api.Claim {
	return slices.DeleteFunc(slices.Clone(l), holds)
}

// specClaims returns the claims of a valid crew with a Mover.
func specClaims(c api.Config, t int, w api.Crew, tick uint64) []api.Claim {
	m, r := c.Teams[t], w.Robots[w.Mover]
	goal := m.Homes[w.Mover]
	switch r.State {
	case api.RobotToPick:
		goal = m.Picks[w.Book.Orders[r.Order-1].Pick]
	case api.RobotToDrop:
		goal = m.Drops[w.Book.Orders[r.Order-1].Drop]
	}
	places, e := route.Route(c, t, api.Leg{From: r.Place, To: goal}, tick)
	if e != api.OK {
		panic("a valid crew has a Mover without a route")
	}
	var claims []api.Claim
	for i, p := range places {
		if i > 0 {
			claims = append(claims, api.Claim{Tick: tick + uint64(i), Place: p, Tenant: t, Robot: w.Mover})
		}
	}
	return claims
}

// specIsPresent reports whether a number is one of a present tenant.
func specIsPresent(c api.Config, t int) bool {
	return t >= 0 && t < len(c.Teams) && len(c.Teams[t].Homes) > 0
}

// specCrews reports whether the crews of a fleet are those of a valid one.
func specCrews(c api.Config, f api.Fleet) bool {
	if len(f.Crews) != len(c.Teams) {
		return false
	}
	for t, w := range f.Crews {
		if specIsPresent(c, t) {
			if crew.Check(c, t, w, f.Tick) != api.OK {
				return false
			}
			continue
		}
		if len(w.Robots) > 0 || len(w.Book.Orders) > 0 || len(w.Book.Queue) > 0 || w.Book.Count != (api.Count{}) || w.Mover != -1 {
			return false
		}
	}
	return true
}

// specCheck returns what Check returns.
func specCheck(c api.Config, f api.Fleet) api.Errno {
	if e := config.Check(c); e != api.OK {
		return e
	}
	if f.Tick > 1<<62 || !specCrews(c, f) || specCheckTable(f.Claims) != api.OK {
		return api.ErrBad
	}
	// A table for each choice of some crews with a Mover.
	tables := [][]api.Claim{nil}
	for t, w := range f.Crews {
		if w.Mover == -1 {
			continue
		}
		more := specClaims(c, t, w, f.Tick)
		for _, l := range tables {
			tables = append(tables, slices.Concat(l, more))
		}
	}
	for _, l := range tables {
		if slices.Equal(specSorted(l), f.Claims) {
			return api.OK
		}
	}
	return api.ErrBad
}

// specStep returns what Step returns for a valid fleet.
func specStep(c api.Config, f api.Fleet) result {
	if f.Tick == 1<<62 {
		return result{e: api.ErrHalted}
	}
	k := f.Tick
	r := result{f: copied(f)}
	for t := range f.Crews {
		if specIsPresent(c, t) {
			r.f.Crews[t], _ = crew.Begin(c, t, r.f.Crews[t], k)
		}
	}
	for t, w := range r.f.Crews {
		if w.Mover == -1 {
			continue
		}
		isIts := func(x api.Claim) bool { return x.Tenant == t && x.Robot == w.Mover }
		if w.Robots[w.Mover].Stall > 0 {
			r.f.Claims = specWithout(r.f.Claims, isIts)
		} else if !slices.ContainsFunc(r.f.Claims, isIts) {
			r.f.Claims = specSorted(append(r.f.Claims, specClaims(c, t, w, k)...))
		}
	}
	for t := range f.Crews {
		if !specIsPresent(c, t) {
			continue
		}
		w, done, _ := crew.Work(c, t, r.f.Crews[t], k)
		r.f.Crews[t], _ = crew.Move(c, t, w, k)
		for _, id := range done {
			r.done = append(r.done, api.Finish{Tenant: t, Order: id})
		}
	}
	r.f.Claims = specWithout(r.f.Claims, func(x api.Claim) bool { return x.Tick <= k+1 })
	r.f.Tick = k + 1
	return r
}

// specRun returns what an action returns.
func specRun(a action, c api.Config, f api.Fleet) result {
	if e := specCheck(c, f); e != api.OK {
		return result{e: e}
	}
	if a.kind == step {
		return specStep(c, f)
	}
	if !specIsPresent(c, a.t) {
		return result{e: api.ErrArg}
	}
	var w api.Crew
	r := result{f: copied(f)}
	switch a.kind {
	case submit:
		w, r.id, r.e = crew.Submit(c, a.t, f.Crews[a.t], a.pick, a.drop, f.Tick)
	case cancel:
		w, r.e = crew.Cancel(c, a.t, f.Crews[a.t], a.n, f.Tick)
	case stall:
		w, r.e = crew.Stall(c, a.t, f.Crews[a.t], a.n, f.Tick)
	}
	if r.e != api.OK {
		return result{e: r.e}
	}
	r.f.Crews[a.t] = w
	return r
}

// specPlan returns what Plan returns for a valid fleet, in which each claim is one of its tenant's Mover.
func specPlan(c api.Config, f api.Fleet, t int) ([]int, api.Errno) {
	if !specIsPresent(c, t) {
		return nil, api.ErrArg
	}
	var places []int
	for _, x := range f.Claims {
		if x.Tenant == t {
			places = append(places, x.Place)
		}
	}
	return places, api.OK
}

// specPositions returns what Positions returns for a valid fleet.
func specPositions(f api.Fleet) []api.Position {
	var l []api.Position
	for t, w := range f.Crews {
		for n, r := range w.Robots {
			l = append(l, api.Position{Tenant: t, Robot: n, Place: r.Place})
		}
	}
	return l
}

// specRight reports whether a list of positions is right.
func specRight(c api.Config, l []api.Position) bool {
	for i, x := range l {
		if !specIsPresent(c, x.Tenant) || x.Robot < 0 || x.Robot >= len(c.Teams[x.Tenant].Homes) || x.Place < 0 || x.Place >= c.Floor.W*c.Floor.H {
			return false
		}
		for _, y := range l[:i] {
			if y.Tenant > x.Tenant || y.Tenant == x.Tenant && y.Robot >= x.Robot {
				return false
			}
		}
	}
	return true
}

// specAllowed reports whether a tenant is allowed at a place at a tick.
func specAllowed(c api.Config, t, p int, tick uint64) bool {
	own, cell := uint8(t+1), c.Floor.Cells[p]
	return cell == own || cell == 255 && c.Slices[tick%uint64(len(c.Slices))] == own
}

// specIsStep reports whether a place is north, east, south or west of another one.
func specIsStep(f api.Floor, p, q int) bool {
	x, y := q%f.W-p%f.W, q/f.W-p/f.W
	return x*x+y*y == 1
}

// specJudge returns what Judge returns.
func specJudge(c api.Config, before, after []api.Position, tick uint64) ([]api.Breach, api.Errno) {
	if e := config.Check(c); e != api.OK {
		return nil, e
	}
	if tick >= 1<<62 {
		return nil, api.ErrArg
	}
	if !specRight(c, before) || !specRight(c, after) || len(before) != len(after) {
		return nil, api.ErrBad
	}
	for i := range before {
		if before[i].Tenant != after[i].Tenant || before[i].Robot != after[i].Robot {
			return nil, api.ErrBad
		}
	}
	var breaches []api.Breach
	for i, x := range after {
		old := before[i].Place
		isCell, isExchange := false, false
		for j := range i {
			isCell = isCell || after[j].Place == x.Place
			isExchange = isExchange || x.Place == before[j].Place && after[j].Place == old && x.Place != old
		}
		isJump := x.Place != old && !specIsStep(c.Floor, old, x.Place)
		isForeign := !specAllowed(c, x.Tenant, x.Place, tick+1)
		for kind, is := range []bool{isCell, isExchange, isJump, isForeign} {
			if is {
				breaches = append(breaches, api.Breach{Kind: uint8(kind + 1), Tenant: x.Tenant, Robot: x.Robot, Place: x.Place})
			}
		}
	}
	return breaches, api.OK
}

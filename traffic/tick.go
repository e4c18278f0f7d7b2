package traffic

import (
	"dunnage/api"
	"dunnage/crew"
)

// runTick does the parts of a tick, each of them tenant by tenant.
func (y *yard) runTick() api.Errno {
	for _, do := range []func(t int) api.Errno{y.begin, y.plan, y.work, y.move} {
		for _, t := range y.tenants {
			if e := do(t); e != api.OK {
				return e
			}
		}
	}
	y.tick++
	y.claims.remove(func(x api.Claim) bool { return x.Tick <= y.tick })
	return api.OK
}

// begin is the part 1, of one tenant.
func (y *yard) begin(t int) api.Errno {
	var e api.Errno
	y.crews[t], e = crew.Begin(y.c, t, y.crews[t], y.tick)
	return e
}

// plan is the part 2, of one tenant: a Mover that is held loses its claims, since it will be late for them; any other one gets them, if it has none.
func (y *yard) plan(t int) api.Errno {
	w := y.crews[t]
	if w.Mover == nobody {
		return api.OK
	}
	if w.Robots[w.Mover].Stall > 0 {
		y.claims.remove(y.isMovers(t))
		return api.OK
	}
	if y.claims.has(y.isMovers(t)) {
		return api.OK
	}
	return y.putClaims(y.claims, t)
}

// work is the first half of the part 3, of one tenant.
func (y *yard) work(t int) api.Errno {
	w, ids, e := crew.Work(y.c, t, y.crews[t], y.tick)
	y.crews[t] = w
	for _, id := range ids {
		y.done = append(y.done, api.Finish{Tenant: t, Order: id})
	}
	return e
}

// move is the second half of the part 3, of one tenant.
func (y *yard) move(t int) api.Errno {
	var e api.Errno
	y.crews[t], e = crew.Move(y.c, t, y.crews[t], y.tick)
	return e
}

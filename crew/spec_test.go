package crew_test

import (
	"slices"

	"dunnage/api"
	"dunnage/config"
	"dunnage/orders"
	"dunnage/route"
)

// The functions of this file restate the chapter's definitions as literally as possible, with what lower layers return.

// specHasRoute reports whether a leg of a scene's tenant has a route from a tick on.
func specHasRoute(x scene, from, to int, tick uint64) bool {
	_, e := route.Arrival(x.c, x.t, api.Leg{From: from, To: to}, tick)
	return e == api.OK
}

// specAllowed reports whether the tenant is allowed at a number, if that is a place, at a tick.
func specAllowed(x scene, p int, tick uint64) bool {
	if p < 0 || p >= len(x.c.Floor.Cells) {
		return false
	}
	own := uint8(x.t + 1)
	cell := x.c.Floor.Cells[p]
	return cell == own || cell == 255 && x.c.Slices[tick%uint64(len(x.c.Slices))] == own
}

// specGoal returns the goal of a robot of a valid crew, and whether it has one.
func specGoal(x scene, w api.Crew, n int) (int, bool) {
	m, r := x.c.Teams[x.t], w.Robots[n]
	switch r.State {
	case 1, 2:
		return m.Picks[w.Book.Orders[r.Order-1].Pick], true
	case 4, 5:
		return m.Drops[w.Book.Orders[r.Order-1].Drop], true
	case 7, 8:
		return m.Homes[n], true
	}
	return 0, false
}

// specRow reports whether a robot is as the table says.
func specRow(x scene, w api.Crew, n int, tick uint64) bool {
	m, r := x.c.Teams[x.t], w.Robots[n]
	var state uint8
	pick, drop := -1, -1
	if r.Order != 0 {
		if r.Order < 1 || r.Order > len(w.Book.Orders) {
			return false
		}
		o := w.Book.Orders[r.Order-1]
		state, pick, drop = o.State, m.Picks[o.Pick], m.Drops[o.Drop]
	}
	switch r.State {
	case 0:
		return r.Place == m.Homes[n] && r.Order == 0 && r.Left == 0
	case 1:
		return r.Place == m.Homes[n] && state == 2 && r.Left == 0
	case 2:
		return specAllowed(x, r.Place, tick) && state == 2 && r.Left == 0
	case 3:
		return r.Place == pick && state == 2 && r.Left >= 1 && r.Left <= m.Load
	case 4:
		return r.Place == pick && state == 3 && r.Left == 0
	case 5:
		return specAllowed(x, r.Place, tick) && state == 3 && r.Left == 0
	case 6:
		return r.Place == drop && state == 3 && r.Left >= 1 && r.Left <= m.Unload
	case 7:
		return slices.Contains(m.Drops, r.Place) && r.Order == 0 && r.Left == 0
	case 8:
		return specAllowed(x, r.Place, tick) && r.Order == 0 && r.Left == 0
	}
	return false
}

// specRobots reports whether the robots of a crew are valid.
func specRobots(x scene, w api.Crew, tick uint64) bool {
	if len(w.Robots) != len(x.c.Teams[x.t].Homes) {
		return false
	}
	for n, r := range w.Robots {
		if !specRow(x, w, n, tick) || r.Stall < 0 || r.Stall > len(x.c.Slices) {
			return false
		}
		if (r.Due || x.c.Floor.Cells[r.Place] == 255) && r.Stall != 0 {
			return false
		}
		for _, other := range w.Robots[:n] {
			if other.Place == r.Place {
				return false
			}
		}
	}
	return true
}

// specOrders reports whether robots and orders of a crew belong to each other.
func specOrders(w api.Crew) bool {
	robots := map[int]int{}
	for _, r := range w.Robots {
		robots[r.Order]++
	}
	for _, o := range w.Book.Orders {
		if robots[o.Id] > 1 || (o.State == 2 || o.State == 3) && robots[o.Id] == 0 {
			return false
		}
	}
	return true
}

// specMover reports whether the Mover of a crew is valid, if its robots are.
func specMover(x scene, w api.Crew, tick uint64) bool {
	if w.Mover < -1 || w.Mover >= len(w.Robots) {
		return false
	}
	for n, r := range w.Robots {
		isOnLeg := r.State == 2 || r.State == 5 || r.State == 8
		if isOnLeg != (n == w.Mover) {
			return false
		}
	}
	if w.Mover == -1 {
		return true
	}
	goal, has := specGoal(x, w, w.Mover)
	for n, r := range w.Robots {
		if n != w.Mover && r.Place == goal {
			return false
		}
	}
	return has && specHasRoute(x, w.Robots[w.Mover].Place, goal, tick)
}

// specCheck returns what Check returns.
func specCheck(x scene, w api.Crew, tick uint64) api.Errno {
	if e := config.Check(x.c); e != api.OK {
		return e
	}
	if x.t < 0 || x.t >= len(x.c.Teams) || len(x.c.Teams[x.t].Homes) == 0 || tick > 1<<62 {
		return api.ErrArg
	}
	if orders.CheckBook(x.c.Teams[x.t], w.Book) != api.OK {
		return api.ErrBad
	}
	if !specRobots(x, w, tick) || !specOrders(w) || !specMover(x, w, tick) {
		return api.ErrBad
	}
	return api.OK
}

// specParts123 does the parts 1, 2 and 3 of a tick to a valid crew.
func specParts123(x scene, w *api.Crew, tick uint64) {
	for n := range w.Robots {
		r := &w.Robots[n]
		if r.Due && x.c.Floor.Cells[r.Place] != 255 {
			r.Due = false
			r.Stall = len(x.c.Slices)
		}
	}
	for n := range w.Robots {
		r := &w.Robots[n]
		if r.State == 0 && r.Stall == 0 && len(w.Book.Queue) > 0 {
			r.State, r.Order = 1, w.Book.Queue[0]
			w.Book.Queue = w.Book.Queue[1:]
			w.Book.Orders[r.Order-1].State = 2
		}
	}
	if w.Mover != -1 {
		return
	}
	best := specBest(x, *w, tick)
	if best == -1 || w.Robots[best].Stall > 0 {
		return
	}
	w.Mover = best
	switch r := &w.Robots[best]; r.State {
	case 7:
		r.State = 8
	case 1:
		r.State = 2
	case 4:
		r.State = 5
	}
}

// specBest returns the number of the best candidate, or -1.
func specBest(x scene, w api.Crew, tick uint64) int {
	isCandidate := func(n int, states ...uint8) bool {
		goal, has := specGoal(x, w, n)
		isTaken := slices.ContainsFunc(w.Robots, func(r api.Robot) bool { return r.Place == goal })
		return has && slices.Contains(states, w.Robots[n].State) && !isTaken && specHasRoute(x, w.Robots[n].Place, goal, tick)
	}
	for n := range w.Robots {
		if isCandidate(n, 7) {
			return n
		}
	}
	best := -1
	for n := range w.Robots {
		if isCandidate(n, 1, 4) && (best == -1 || w.Robots[n].Order < w.Robots[best].Order) {
			best = n
		}
	}
	return best
}

// specPart4 does the part 4 of a tick to a valid crew, and returns the orders that are done by it.
func specPart4(w *api.Crew, tick uint64) []int {
	var done []int
	for n := range w.Robots {
		r := &w.Robots[n]
		if r.State != 3 && r.State != 6 || r.Stall > 0 {
			continue
		}
		r.Left--
		if r.Left != 0 {
			continue
		}
		o := &w.Book.Orders[r.Order-1]
		if r.State == 3 {
			r.State, o.State = 4, 3
		} else {
			done = append(done, r.Order)
			r.State, r.Order = 7, 0
			o.State, o.Done = 4, tick+1
		}
	}
	return done
}

// specParts56 does the parts 5 and 6 of a tick to a valid crew.
func specParts56(x scene, w *api.Crew, tick uint64) {
	if w.Mover != -1 && w.Robots[w.Mover].Stall == 0 {
		r := &w.Robots[w.Mover]
		goal, _ := specGoal(x, *w, w.Mover)
		p, e := route.Next(x.c, x.t, api.Leg{From: r.Place, To: goal}, tick)
		if e == api.OK {
			r.Place = p
		}
		if r.Place == goal {
			switch r.State {
			case 2:
				r.State, r.Left = 3, x.c.Teams[x.t].Load
			case 5:
				r.State, r.Left = 6, x.c.Teams[x.t].Unload
			case 8:
				r.State = 0
			}
			w.Mover = -1
		}
	}
	for n := range w.Robots {
		if w.Robots[n].Stall > 0 {
			w.Robots[n].Stall--
		}
	}
}

// specRun returns what an action returns.
func specRun(a action, x scene, w api.Crew, tick uint64) result {
	if e := specCheck(x, w, tick); e != api.OK {
		return result{e: e}
	}
	r := result{w: copied(w)}
	switch {
	case a.kind == submit:
		r.w.Book, r.id, r.e = orders.Submit(x.c.Teams[x.t], w.Book, a.pick, a.drop, tick)
	case a.kind == cancel:
		r.w.Book, r.e = orders.Cancel(x.c.Teams[x.t], w.Book, a.n)
	case a.kind == stall && (a.n < 0 || a.n >= len(w.Robots)):
		r.e = api.ErrArg
	case a.kind == stall && w.Robots[a.n].Stall == 0:
		r.w.Robots[a.n].Due = true
	case a.kind == begin:
		specParts123(x, &r.w, tick)
	case a.kind >= work && tick == 1<<62:
		r.e = api.ErrArg
	case a.kind == work:
		r.done = specPart4(&r.w, tick)
	case a.kind == move:
		specParts56(x, &r.w, tick)
	case a.kind == step:
		specParts123(x, &r.w, tick)
		r.done = specPart4(&r.w, tick)
		specParts56(x, &r.w, tick)
	}
	if r.e != api.OK {
		return result{e: r.e}
	}
	return r
}

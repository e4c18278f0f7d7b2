package crew_test

import (
	"slices"
	"testing"

	"dunnage/api"
	"dunnage/crew"
	"dunnage/route"
)

// P8.5: what Begin and Work return is valid at the tick, and what Move and Step return at the tick that follows; so is what Submit, Cancel and Stall return at the tick.
func TestCrewsStayValid(t *testing.T) {
	check := func(x scene, m moment) {
		if m.after.e != api.OK {
			return
		}
		tick := m.tick
		if m.isTick() {
			tick++
		}
		wantErrno(t, "Check", crew.Check(x.c, x.t, m.after.w, tick), api.OK)
		wantErrno(t, "the definition", specCheck(x, m.after.w, tick), api.OK)
	}
	eachHistory(t, true, func(x scene) {}, check)
	for _, s := range drawnSamples() {
		for _, kind := range kinds {
			a := action{kind: kind}
			check(s.x, moment{s.w, s.tick, a, a.run(s.x, s.w, s.tick)})
		}
	}
}

// P8.5: Step is Begin, Work and Move.
func TestStepIsItsParts(t *testing.T) {
	for _, s := range goodSamples(t) {
		begun := action{kind: begin}.run(s.x, s.w, s.tick)
		worked := action{kind: work}.run(s.x, begun.w, s.tick)
		moved := action{kind: move}.run(s.x, worked.w, s.tick)
		wantErrno(t, "Begin", begun.e, api.OK)
		wantErrno(t, "Work", worked.e, api.OK)
		moved.done = worked.done
		wantResult(t, "Step", action{kind: step}.run(s.x, s.w, s.tick), moved)
	}
}

// P8.5: in a tick at most one robot moves, by one step, to a place where its tenant is allowed at the next tick, and where no other robot stands.
func TestRobotsMoveOneByOne(t *testing.T) {
	moves, aisles := 0, 0
	check := func(x scene, m moment) {
		if !m.isTick() || m.after.e != api.OK {
			return
		}
		many := 0
		for n, r := range m.before.Robots {
			p := m.after.w.Robots[n].Place
			is, e := route.Allowed(x.c, x.t, p, m.tick+1)
			want(t, "Allowed", is, e, true, api.OK)
			for _, other := range m.after.w.Robots[:n] {
				if other.Place == p {
					t.Errorf("two robots are at %d", p)
				}
			}
			if p == r.Place {
				continue
			}
			many++
			if x.c.Floor.Cells[p] == api.CellAisle {
				aisles++
			}
			if !isOneStep(x.c.Floor, r.Place, p) {
				t.Errorf("the robot %d moves from %d to %d", n, r.Place, p)
			}
			for other := range m.before.Robots {
				if m.before.Robots[other].Place == p {
					t.Errorf("the robot %d moves to %d, where the robot %d stood", n, p, other)
				}
			}
		}
		if many > 1 {
			t.Errorf("%d robots move in a tick", many)
		}
		moves += many
	}
	eachHistory(t, true, func(x scene) {}, check)
	eachHistory(t, false, func(x scene) {}, check)
	if moves < 1000 || aisles < 300 {
		t.Errorf("%d moves, %d of them to aisles", moves, aisles)
	}
}

// isOneStep reports whether a place is north, east, south or west of another one.
func isOneStep(f api.Floor, p, q int) bool {
	x, y := q%f.W-p%f.W, q/f.W-p/f.W
	return x*x+y*y == 1
}

// P8.5: no order is lost, called twice or done twice, queued orders are called in their order, and done ones are named when they are done.
func TestOrdersAreDoneOnce(t *testing.T) {
	called, finished := map[int]bool{}, map[int]bool{}
	calls := 0
	start := func(x scene) {
		clear(called)
		clear(finished)
	}
	check := func(x scene, m moment) {
		if m.after.e != api.OK {
			return
		}
		before, later := m.before.Book.Orders, m.after.w.Book.Orders
		if len(later) < len(before) || len(later) > len(before)+1 {
			t.Fatalf("%d orders become %d", len(before), len(later))
		}
		last := 0
		for i, o := range before {
			if later[i].State == o.State {
				continue
			}
			switch later[i].State {
			case api.OrderAssigned:
				if o.State != api.OrderQueued || called[o.Id] || o.Id < last {
					t.Errorf("%v becomes %v", o, later[i])
				}
				called[o.Id], last = true, o.Id
				calls++
			case api.OrderDone:
				if o.State != api.OrderCarrying || finished[o.Id] || later[i].Done != m.tick+1 || !slices.Contains(m.after.done, o.Id) {
					t.Errorf("%v becomes %v, and %v are done", o, later[i], m.after.done)
				}
				finished[o.Id] = true
			}
		}
		for _, id := range m.after.done {
			if later[id-1].State != api.OrderDone || before[id-1].State == api.OrderDone {
				t.Errorf("%d is named as done: %v becomes %v", id, before[id-1], later[id-1])
			}
		}
		// Who is still queued comes after all that were called.
		if last > 0 && len(m.after.w.Book.Queue) > 0 && m.after.w.Book.Queue[0] < last {
			t.Errorf("%d is called, and %d waits", last, m.after.w.Book.Queue[0])
		}
	}
	eachHistory(t, true, start, check)
	eachHistory(t, false, start, check)
	if calls < 500 {
		t.Errorf("%d orders were called", calls)
	}
}

// stop is what is known of a stall that a robot was asked for: where the robot is held from a tick on, and before which tick.
type stop struct {
	isAsked, isHeld bool
	robot           api.Robot
	until           uint64
}

// P8.5: a robot that is asked to stall stays where it is, from the next tick on at which it is not on an aisle, for one period.
func TestStallsLastAPeriod(t *testing.T) {
	stops := [api.MaxRobots]stop{}
	many, late := 0, 0
	check := func(x scene, m moment) {
		if m.after.e != api.OK {
			return
		}
		if m.a.kind == stall && !stops[m.a.n].isHeld {
			stops[m.a.n].isAsked = true
		}
		if m.a.kind != step {
			return
		}
		isStalled := false
		for n, r := range m.before.Robots {
			s := &stops[n]
			isStalled = isStalled || s.isAsked || s.isHeld
			if s.isAsked && x.c.Floor.Cells[r.Place] != api.CellAisle {
				*s = stop{isHeld: true, robot: r, until: m.tick + uint64(len(x.c.Slices))}
				many++
			} else if s.isAsked {
				late++
			}
			if !s.isHeld {
				continue
			}
			later := m.after.w.Robots[n]
			if later.Place != s.robot.Place || later.Left != s.robot.Left || later.State != s.robot.State {
				t.Errorf("a robot that is held at the tick %d: %v becomes %v", m.tick, s.robot, later)
			}
			if m.tick+1 == s.until {
				*s = stop{}
			}
		}
		is, e := crew.Stalled(x.c, x.t, m.before, m.tick)
		want(t, "Stalled", is, e, isStalled, api.OK)
		for n, r := range m.after.w.Robots {
			if (r.Stall > 0) != stops[n].isHeld || r.Due != stops[n].isAsked {
				t.Errorf("after the tick %d: %v, want one that is held %t, and due %t", m.tick, r, stops[n].isHeld, stops[n].isAsked)
			}
		}
	}
	eachHistory(t, false, func(x scene) { stops = [api.MaxRobots]stop{} }, check)
	if many < 200 || late < 20 {
		t.Errorf("%d stalls, for %d ticks late", many, late)
	}
}

// P8.5, N4: in a sound config each order that is not cancelled is done within the bound, and the ticks in which the crew is stalled.
func TestOrdersAreDoneInTime(t *testing.T) {
	many := 0
	for i, x := range allScenes() {
		if route.Sound(x.c) != api.OK {
			continue
		}
		bound, e := route.Bound(x.c, x.t)
		wantErrno(t, "Bound", e, api.OK)
		for j := range 3 {
			many += checkOrdersAreDone(t, x, i*3+j, uint64(bound))
		}
	}
	if many < 600 {
		t.Errorf("%d orders were done", many)
	}
}

// checkOrdersAreDone submits, cancels and stalls for a while, and then goes on until the crew is at rest, or ought to be; it returns how many orders were done.
func checkOrdersAreDone(t *testing.T, x scene, seed int, bound uint64) int {
	t.Helper()
	first := uint64(1000 * seed)
	w, tick := newCrew(t, x), first
	var stalled []bool
	note := func(before api.Crew) {
		is, e := crew.Stalled(x.c, x.t, before, tick)
		wantErrno(t, "Stalled", e, api.OK)
		stalled = append(stalled, is)
	}
	x.history(t, seed, false, first, 400, func(m moment) {
		w = m.before
		if m.after.e != api.OK {
			return
		}
		w = m.after.w
		if m.isTick() {
			note(m.before)
			tick++
		}
	})
	for last := tick + 2*bound; tick < last; tick++ {
		is, e := crew.Rest(x.c, x.t, w, tick)
		wantErrno(t, "Rest", e, api.OK)
		if is {
			break
		}
		note(w)
		w, _ = stepped(t, x, w, tick, 1)
	}
	many := 0
	for _, o := range w.Book.Orders {
		if o.State == api.OrderCancelled {
			continue
		}
		most := bound
		for i, is := range stalled {
			if at := first + uint64(i); is && at >= o.At && at < o.Done {
				most++
			}
		}
		if o.State != api.OrderDone || o.Done < o.At || o.Done-o.At > most {
			t.Errorf("%v, want it done in %d ticks: %v", o, most, x)
		}
		many++
	}
	return many
}

// P8.5: robots are sent on until the crew is at rest: the last robot comes home too.
func TestCrewsComeToRest(t *testing.T) {
	for _, x := range allScenes() {
		if route.Sound(x.c) != api.OK {
			continue
		}
		m := x.c.Teams[x.t]
		w := newCrew(t, x)
		for i := range min(m.Queue, m.Quota) {
			w = after(t, x, w, 0, action{submit, i % len(m.Picks), i / 2 % len(m.Drops), 0})
		}
		bound, e := route.Bound(x.c, x.t)
		wantErrno(t, "Bound", e, api.OK)
		w, done := stepped(t, x, w, 0, bound)
		is, e := crew.Rest(x.c, x.t, w, uint64(bound))
		want(t, "Rest", is, e, true, api.OK)
		slices.Sort(done)
		for i, id := range done {
			if id != i+1 {
				t.Errorf("the orders %v are done", done)
			}
		}
		if len(done) != min(m.Queue, m.Quota) {
			t.Errorf("the orders %v are done, of %d", done, min(m.Queue, m.Quota))
		}
	}
}

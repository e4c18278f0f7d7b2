package crew_test

import (
	"slices"
	"testing"

	"dunnage/api"
	"dunnage/crew"
)

// wantStep does a step, and checks the robot of a crew that has one, its Mover, and the orders that are done.
func wantStep(t *testing.T, x scene, w api.Crew, tick uint64, robot api.Robot, mover int, done ...int) api.Crew {
	t.Helper()
	r := action{kind: step}.run(x, w, tick)
	if r.e != api.OK || r.w.Robots[0] != robot || r.w.Mover != mover || !slices.Equal(r.done, done) {
		t.Fatalf("Step of the tick %d: %v, want %v, the Mover %d, and %v", tick, r, robot, mover, done)
	}
	return r.w
}

// wantOrder checks an order of a crew.
func wantOrder(t *testing.T, w api.Crew, wanted api.Order) {
	t.Helper()
	if o := w.Book.Orders[wanted.Id-1]; o != wanted {
		t.Errorf("%v, want %v", o, wanted)
	}
}

// P8.4: the chapter's example, up to the end of the order.
func TestExample(t *testing.T) {
	x := exampleScene()
	r := action{kind: submit}.run(x, newCrew(t, x), 0)
	want(t, "Submit", r.id, r.e, 1, api.OK)
	w := wantStep(t, x, r.w, 0, api.Robot{Place: 5, State: api.RobotLoading, Order: 1, Left: 1}, -1)
	wantOrder(t, w, api.Order{Id: 1, State: api.OrderAssigned})
	w = wantStep(t, x, w, 1, api.Robot{Place: 5, State: api.RobotLoaded, Order: 1}, -1)
	wantOrder(t, w, api.Order{Id: 1, State: api.OrderCarrying})
	for i, p := range []int{5, 6, 1, 2, 3} {
		w = wantStep(t, x, w, uint64(2+i), api.Robot{Place: p, State: api.RobotToDrop, Order: 1}, 0)
	}
	w = wantStep(t, x, w, 7, api.Robot{Place: 4, State: api.RobotUnloading, Order: 1, Left: 1}, -1)
	wantOrder(t, w, api.Order{Id: 1, State: api.OrderCarrying})
	w = wantStep(t, x, w, 8, api.Robot{Place: 4, State: api.RobotEmpty}, -1, 1)
	wantOrder(t, w, api.Order{Id: 1, State: api.OrderDone, Done: 9})
}

// P8.4: the chapter's example, with a stall, and the way home.
func TestExampleOfAStall(t *testing.T) {
	x := exampleScene()
	w, done := stepped(t, x, after(t, x, newCrew(t, x), 0, action{kind: submit}), 0, 9)
	if !slices.Equal(done, []int{1}) {
		t.Fatalf("the orders %v are done", done)
	}
	unasked := w
	w = after(t, x, w, 9, action{kind: stall})
	begun := after(t, x, w, 9, action{kind: begin})
	if begun.Robots[0] != (api.Robot{Place: 4, State: api.RobotEmpty, Stall: 6}) || begun.Mover != -1 {
		t.Errorf("Begin: %v", begun)
	}
	for tick := 9; tick <= 14; tick++ {
		is, e := crew.Stalled(x.c, x.t, w, uint64(tick))
		want(t, "Stalled", is, e, true, api.OK)
		w = wantStep(t, x, w, uint64(tick), api.Robot{Place: 4, State: api.RobotEmpty, Stall: 14 - tick}, -1)
	}
	is, e := crew.Stalled(x.c, x.t, w, 15)
	want(t, "Stalled", is, e, false, api.OK)
	// The stall is as long as the period, so that the way home is the same as without it.
	for i, p := range []int{4, 3, 2, 1} {
		unasked = wantStep(t, x, unasked, uint64(9+i), api.Robot{Place: p, State: api.RobotToHome}, 0)
		w = wantStep(t, x, w, uint64(15+i), api.Robot{Place: p, State: api.RobotToHome}, 0)
	}
	wantStep(t, x, unasked, 13, api.Robot{}, -1)
	w = wantStep(t, x, w, 19, api.Robot{}, -1)
	is, e = crew.Rest(x.c, x.t, w, 20)
	want(t, "Rest", is, e, true, api.OK)
	wantStep(t, x, w, 20, api.Robot{}, -1)
}

// P8.4, part 1: stalls that are due begin, but not on an aisle.
func TestStallsBegin(t *testing.T) {
	x := crowdScene()
	due := changed(busyCrew(), func(w *api.Crew) {
		for n := range w.Robots {
			w.Robots[n].Due = true
		}
	})
	begun := changed(due, func(w *api.Crew) {
		w.Robots[1].Due, w.Robots[1].Stall = false, 13
		w.Robots[2].Due, w.Robots[2].Stall = false, 13
	})
	wantResult(t, "Begin", action{kind: begin}.run(x, due, busyTick), result{w: begun})
	wantResult(t, "Begin again", action{kind: begin}.run(x, begun, busyTick), result{w: begun})
	due.Robots[0].Place, begun.Robots[0] = 30, api.Robot{Place: 30, State: api.RobotToDrop, Order: 1, Stall: 13}
	wantResult(t, "Begin on the way", action{kind: begin}.run(x, due, busyTick), result{w: begun})
}

// P8.4, part 2: robots that are idle and not held take the first queued orders, robot by robot.
func TestRobotsAreCalled(t *testing.T) {
	x := crowdScene()
	home := func(n int) api.Robot { return api.Robot{Place: x.c.Teams[x.t].Homes[n]} }
	called := func(n, id int) api.Robot {
		r := home(n)
		r.State, r.Order = api.RobotCalled, id
		return r
	}
	held := func(r api.Robot) api.Robot {
		r.Stall = 4
		return r
	}
	for _, a := range []struct {
		what   string
		queued []int
		before []api.Robot
		after  []api.Robot
		mover  int
	}{
		{"no order", nil, []api.Robot{home(0), home(1), home(2)}, []api.Robot{home(0), home(1), home(2)}, -1},
		{"one order", []int{3}, []api.Robot{home(0), home(1), home(2)}, []api.Robot{called(0, 3), home(1), home(2)}, 0},
		{"two orders", []int{3, 4}, []api.Robot{home(0), home(1), home(2)}, []api.Robot{called(0, 3), called(1, 4), home(2)}, 0},
		{"four orders", []int{1, 3, 4, 6}, []api.Robot{home(0), home(1), home(2)}, []api.Robot{called(0, 1), called(1, 3), called(2, 4)}, 0},
		{"a robot that is held", []int{3, 4}, []api.Robot{held(home(0)), home(1), home(2)}, []api.Robot{held(home(0)), called(1, 3), called(2, 4)}, 1},
		{"two that are held", []int{3, 4}, []api.Robot{held(home(0)), home(1), held(home(2))}, []api.Robot{held(home(0)), called(1, 3), held(home(2))}, 1},
		{"all held", []int{3}, []api.Robot{held(home(0)), held(home(1)), held(home(2))}, []api.Robot{held(home(0)), held(home(1)), held(home(2))}, -1},
	} {
		states := []uint8{5, 5, 5, 5, 5, 5}
		for _, id := range a.queued {
			states[id-1] = api.OrderQueued
		}
		before := crewOf(bookOf(states...), a.before...)
		for _, r := range a.after {
			if r.Order != 0 {
				states[r.Order-1] = api.OrderAssigned
			}
		}
		// The part 3 follows: one of those that are called is sent.
		wanted := crewOf(bookOf(states...), slices.Clone(a.after)...)
		if wanted.Mover = a.mover; a.mover >= 0 {
			wanted.Robots[a.mover].State = api.RobotToPick
		}
		wantResult(t, "Begin with "+a.what, action{kind: begin}.run(x, before, 3), result{w: wanted})
	}
	// A stall that is due begins before robots are called.
	due := crewOf(bookOf(api.OrderQueued), api.Robot{Place: 24, Due: true}, home(1), home(2))
	begun := action{kind: begin}.run(x, due, 3)
	if begun.w.Robots[0] != (api.Robot{Place: 24, Stall: 13}) || begun.w.Robots[1].Order != 1 || begun.w.Mover != 1 {
		t.Errorf("Begin with an idle robot that is due: %v", begun)
	}
}

// choice is a crew of three robots without a Mover, and the robot that becomes it.
type choice struct {
	what   string
	x      scene
	orders []api.Order
	robots []api.Robot
	mover  int
}

// choices returns crews of whose robots at most one is sent.
func choices() []choice {
	type orders = []api.Order
	type robots = []api.Robot
	carrying := func(pick, drop int) api.Order {
		return api.Order{Pick: pick, Drop: drop, State: api.OrderCarrying}
	}
	assigned := func(pick int) api.Order { return api.Order{Pick: pick, State: api.OrderAssigned} }
	called := func(place, id int) api.Robot {
		return api.Robot{Place: place, State: api.RobotCalled, Order: id}
	}
	loaded := func(place, id int) api.Robot {
		return api.Robot{Place: place, State: api.RobotLoaded, Order: id}
	}
	empty := func(place int) api.Robot { return api.Robot{Place: place, State: api.RobotEmpty} }
	held := func(r api.Robot) api.Robot {
		r.Stall = 1
		return r
	}
	unloading := api.Robot{Place: 26, State: api.RobotUnloading, Order: 2, Left: 1}
	loading := api.Robot{Place: 31, State: api.RobotLoading, Order: 1, Left: 2}
	crowd, split := crowdScene(), splitScene()
	return []choice{
		{"idle robots", crowd, nil, robots{{Place: 24}, {Place: 32}, {Place: 33}}, -1},
		{"an empty robot and older orders", crowd, orders{assigned(0), assigned(1)}, robots{called(24, 1), called(32, 2), empty(34)}, 2},
		{"an empty robot and a loaded one", crowd, orders{carrying(0, 0)}, robots{loaded(31, 1), empty(34), {Place: 33}}, 1},
		{"two empty robots", crowd, orders{assigned(0)}, robots{called(24, 1), empty(34), empty(26)}, 1},
		{"three empty robots", crowd, nil, robots{empty(34), empty(29), empty(26)}, 0},
		{"a called one with the older order", crowd, orders{assigned(1), carrying(0, 0)}, robots{loaded(31, 2), {Place: 32}, called(33, 1)}, 2},
		{"a loaded one with the older order", crowd, orders{carrying(0, 0), assigned(1)}, robots{called(24, 2), {Place: 32}, loaded(31, 1)}, 2},
		{"a robot at the pick of the older order", crowd, orders{assigned(0), carrying(0, 0)}, robots{called(24, 1), loaded(31, 2), {Place: 33}}, 1},
		{"robots at all goals", crowd, orders{carrying(0, 0), carrying(1, 0), assigned(0)}, robots{loaded(31, 1), unloading, called(33, 3)}, -1},
		{"three called robots", crowd, orders{assigned(0), assigned(1), assigned(2)}, robots{called(24, 3), called(32, 1), called(33, 2)}, 1},
		{"a robot at the pick of both older orders", crowd, orders{assigned(0), assigned(0), carrying(0, 0)}, robots{loaded(31, 3), called(32, 2), called(33, 1)}, 0},
		{"the best one held", crowd, orders{assigned(0), assigned(1)}, robots{called(24, 2), held(called(32, 1)), {Place: 33}}, -1},
		{"the empty one held", crowd, orders{assigned(0)}, robots{called(24, 1), held(empty(34)), {Place: 33}}, -1},
		{"the first empty one held", crowd, nil, robots{held(empty(34)), empty(29), {Place: 33}}, -1},
		{"the second one held", crowd, orders{assigned(0), assigned(1)}, robots{held(called(24, 2)), called(32, 1), {Place: 33}}, 1},
		{"the second empty one held", crowd, nil, robots{empty(34), held(empty(29)), {Place: 33}}, 0},
		{"the held one's goal taken", crowd, orders{assigned(0), carrying(0, 0)}, robots{held(called(24, 1)), loaded(31, 2), {Place: 33}}, 1},
		{"all robots working", crowd, orders{assigned(0), carrying(1, 0)}, robots{loading, unloading, {Place: 33}}, -1},
		// Beyond the wall of splitScene are the pick 7 and the drop 6.
		{"the loaded one without a route", split, orders{carrying(1, 0), assigned(0)}, robots{loaded(7, 1), called(16, 2), {Place: 17}}, 1},
		{"the called one without a route", split, orders{assigned(1), assigned(0)}, robots{called(0, 1), {Place: 16}, called(17, 2)}, 2},
		{"the empty one without a route", split, orders{assigned(0)}, robots{empty(6), called(16, 1), {Place: 17}}, 1},
		{"the held one without a route", split, orders{carrying(1, 0), assigned(0)}, robots{held(loaded(7, 1)), called(16, 2), {Place: 17}}, 1},
		{"none with a route", split, orders{carrying(1, 0)}, robots{loaded(7, 1), {Place: 16}, empty(6)}, -1},
	}
}

// P8.4, part 3: the best candidate becomes the Mover, unless it is held.
func TestMoverIsChosen(t *testing.T) {
	for _, a := range choices() {
		for i := range a.orders {
			a.orders[i].Id = i + 1
		}
		w := crewOf(api.Book{Orders: a.orders}, a.robots...)
		wanted := copied(w)
		if wanted.Mover = a.mover; a.mover >= 0 {
			wanted.Robots[a.mover].State++
		}
		wantResult(t, "Begin with "+a.what, action{kind: begin}.run(a.x, w, 3), result{w: wanted})
	}
	// A Mover stays the Mover, also if it is held, and whoever waits.
	x := crowdScene()
	waiting := changed(busyCrew(), func(w *api.Crew) { w.Robots[2] = api.Robot{Place: 34, State: api.RobotEmpty} })
	waiting.Book.Orders[4].State = api.OrderCancelled
	wantResult(t, "Begin with a Mover", action{kind: begin}.run(x, waiting, busyTick), result{w: waiting})
	waiting.Robots[0].Place, waiting.Robots[0].Stall = 30, 2
	wantResult(t, "Begin with a Mover that is held", action{kind: begin}.run(x, waiting, busyTick), result{w: waiting})
}

// P8.4, part 4: work goes on and ends, but not of a robot that is held.
func TestWork(t *testing.T) {
	x := crowdScene()
	b := bookOf(api.OrderDone, api.OrderCarrying, api.OrderAssigned, api.OrderQueued, api.OrderCarrying)
	b.Orders[1].Drop, b.Orders[2].Pick = 1, 2
	w := crewOf(b,
		api.Robot{Place: 26, State: api.RobotUnloading, Order: 5, Left: 2},
		api.Robot{Place: 29, State: api.RobotUnloading, Order: 2, Left: 2},
		api.Robot{Place: 39, State: api.RobotLoading, Order: 3, Left: 2})
	once := changed(w, func(w *api.Crew) { w.Robots[0].Left, w.Robots[1].Left, w.Robots[2].Left = 1, 1, 1 })
	wantResult(t, "Work", action{kind: work}.run(x, w, 30), result{w: once})
	twice := changed(once, func(w *api.Crew) {
		w.Robots = []api.Robot{{Place: 26, State: api.RobotEmpty}, {Place: 29, State: api.RobotEmpty}, {Place: 39, State: api.RobotLoaded, Order: 3}}
		w.Book.Orders[1] = api.Order{Id: 2, Drop: 1, State: api.OrderDone, Done: 32}
		w.Book.Orders[2].State = api.OrderCarrying
		w.Book.Orders[4] = api.Order{Id: 5, State: api.OrderDone, Done: 32}
	})
	// The orders are named in the order of the robots.
	wantResult(t, "Work that ends", action{kind: work}.run(x, once, 31), result{w: twice, done: []int{5, 2}})
	wantResult(t, "Work after its end", action{kind: work}.run(x, twice, 32), result{w: twice})
	held := changed(once, func(w *api.Crew) { w.Robots[0].Stall, w.Robots[2].Stall = 1, 13 })
	some := changed(held, func(w *api.Crew) { w.Robots[1], w.Book.Orders[1] = twice.Robots[1], twice.Book.Orders[1] })
	wantResult(t, "Work of robots that are held", action{kind: work}.run(x, held, 31), result{w: some, done: []int{2}})
	due := changed(once, func(w *api.Crew) { w.Robots[2].Due = true })
	loaded := changed(twice, func(w *api.Crew) { w.Robots[2].Due = true })
	wantResult(t, "Work of a robot that is due", action{kind: work}.run(x, due, 31), result{w: loaded, done: []int{5, 2}})
}

// P8.4, part 5: the Mover goes on, and works at its goal.
func TestMove(t *testing.T) {
	x := crowdScene()
	on := func(place int, state uint8, id int) func(w *api.Crew) {
		return func(w *api.Crew) { w.Robots[0] = api.Robot{Place: place, State: state, Order: id} }
	}
	wantMove := func(what string, tick uint64, before, after func(w *api.Crew), mover int) {
		t.Helper()
		w := changed(busyCrew(), before)
		wanted := changed(w, after)
		wanted.Mover = mover
		wantResult(t, "Move "+what, action{kind: move}.run(x, w, tick), result{w: wanted})
	}
	same := func(w *api.Crew) {}
	wantMove("on", busyTick, same, on(21, api.RobotToDrop, 1), 0)
	wantMove("before an aisle in a slice of another one", 9, func(w *api.Crew) {
		w.Book.Orders[0].Drop = 2
		on(30, api.RobotToDrop, 1)(w)
	}, same, 0)
	unloading := func(w *api.Crew) {
		w.Robots[0] = api.Robot{Place: 29, State: api.RobotUnloading, Order: 1, Left: 2}
	}
	wantMove("to a drop", busyTick, on(21, api.RobotToDrop, 1), unloading, -1)
	wantMove("at its goal", busyTick, on(29, api.RobotToDrop, 1), unloading, -1)
	assigned := func(place int) func(w *api.Crew) {
		return func(w *api.Crew) {
			w.Book.Orders[0].State, w.Book.Orders[0].Pick = api.OrderAssigned, 0
			on(place, api.RobotToPick, 1)(w)
		}
	}
	wantMove("to a pick", busyTick, assigned(30), func(w *api.Crew) {
		w.Robots[0] = api.Robot{Place: 31, State: api.RobotLoading, Order: 1, Left: 3}
	}, -1)
	none := func(place int) func(w *api.Crew) {
		return func(w *api.Crew) {
			w.Book.Orders[0].State = api.OrderCancelled
			on(place, api.RobotToHome, 0)(w)
		}
	}
	wantMove("home", busyTick, none(25), on(24, api.RobotIdle, 0), -1)
	wantMove("on the way home", busyTick, none(34), on(35, api.RobotToHome, 0), 0)
	due := func(w *api.Crew) { w.Robots[0].Due = true }
	wantMove("one that is due", busyTick, due, func(w *api.Crew) { w.Robots[0].Place = 21 }, 0)
	none0 := changed(busyCrew(), func(w *api.Crew) {
		w.Mover, w.Book.Orders[0].State = -1, api.OrderCancelled
		w.Robots[0] = api.Robot{Place: 26, State: api.RobotEmpty}
	})
	wantResult(t, "Move without a Mover", action{kind: move}.run(x, none0, busyTick), result{w: none0})
}

// P8.4, parts 5 and 6: who is held stays, and is held for a tick less.
func TestMoveOfHeldRobots(t *testing.T) {
	x := crowdScene()
	for _, left := range []int{1, 2, 13} {
		for _, place := range []int{30, 29} {
			w := changed(busyCrew(), func(w *api.Crew) { w.Robots[0].Place, w.Robots[0].Stall = place, left })
			wanted := changed(w, func(w *api.Crew) { w.Robots[0].Stall = left - 1 })
			wantResult(t, "Move of a Mover that is held", action{kind: move}.run(x, w, busyTick), result{w: wanted})
		}
		w := changed(busyCrew(), func(w *api.Crew) { w.Robots[1].Stall, w.Robots[2].Stall = left, 4 })
		wanted := changed(w, func(w *api.Crew) {
			w.Robots[0].Place = 21
			w.Robots[1].Stall, w.Robots[2].Stall = left-1, 3
		})
		wantResult(t, "Move with others that are held", action{kind: move}.run(x, w, busyTick), result{w: wanted})
	}
}

// P8.4: at MaxTick only Begin is left.
func TestLastTick(t *testing.T) {
	x := exampleScene()
	first := uint64(api.MaxTick - 12)
	w := after(t, x, newCrew(t, x), first, action{kind: submit})
	w, done := stepped(t, x, w, first, 12)
	// 2^62 is 4 more than a multiple of the period: the leg to the drop begins with the period, and takes 8 ticks.
	if !slices.Equal(done, []int{1}) || w.Book.Orders[0].Done != first+11 {
		t.Errorf("the orders %v are done: %v", done, w.Book)
	}
	ready := crewOf(bookOf(api.OrderCarrying), api.Robot{Place: 4, State: api.RobotUnloading, Order: 1, Left: 1})
	r := action{kind: step}.run(x, ready, api.MaxTick-1)
	if o := r.w.Book.Orders; r.e != api.OK || !slices.Equal(r.done, []int{1}) || o[0].Done != api.MaxTick {
		t.Errorf("Step of the last tick: %v", r)
	}
	for _, kind := range []int{work, move, step} {
		wantResult(t, "a part of a tick at MaxTick", action{kind: kind}.run(x, ready, api.MaxTick), result{e: api.ErrArg})
		bad := changed(ready, func(w *api.Crew) { w.Robots[0].Left = 2 })
		wantResult(t, "a part of a tick of a crew that is not valid at MaxTick", action{kind: kind}.run(x, bad, api.MaxTick), result{e: api.ErrBad})
	}
	queued := after(t, x, newCrew(t, x), api.MaxTick, action{kind: submit})
	begun := action{kind: begin}.run(x, queued, api.MaxTick)
	if begun.e != api.OK || begun.w.Mover != 0 || begun.w.Robots[0] != (api.Robot{State: api.RobotToPick, Order: 1}) {
		t.Errorf("Begin at MaxTick: %v", begun)
	}
}

// P8.2 to P8.4: all actions of long histories, and of drawn crews, do what the chapter says.
func TestActions(t *testing.T) {
	succeeded := map[int]int{}
	check := func(x scene, m moment) {
		wantResult(t, "an action of a history", m.after, specRun(m.a, x, m.before, m.tick))
		if m.after.e == api.OK {
			succeeded[m.a.kind]++
		}
	}
	eachHistory(t, true, func(x scene) {}, check)
	eachHistory(t, false, func(x scene) {}, check)
	for kind := range kinds {
		if succeeded[kind] < 300 {
			t.Errorf("the action %d succeeded %d times", kind, succeeded[kind])
		}
	}
	for _, s := range drawnSamples() {
		if specCheck(s.x, s.w, s.tick) != api.OK {
			continue
		}
		for _, kind := range kinds {
			a := action{kind: kind, n: 1}
			wantResult(t, "an action of a drawn crew", a.run(s.x, s.w, s.tick), specRun(a, s.x, s.w, s.tick))
		}
	}
}

package crew_test

import (
	"slices"
	"testing"

	"dunnage/api"
	"dunnage/crew"
	"dunnage/orders"
)

// P8.1: New returns a crew whose robots are idle at their homes.
func TestNew(t *testing.T) {
	w := newCrew(t, crowdScene())
	if wanted := crewOf(api.Book{}, api.Robot{Place: 24}, api.Robot{Place: 32}, api.Robot{Place: 33}); !equalCrews(w, wanted) {
		t.Errorf("New: %v", w)
	}
	for _, x := range allScenes() {
		var robots []api.Robot
		for _, p := range x.c.Teams[x.t].Homes {
			robots = append(robots, api.Robot{Place: p})
		}
		w := newCrew(t, x)
		if wanted := (api.Crew{Robots: robots, Mover: -1}); !equalCrews(w, wanted) {
			t.Errorf("New: %v, want %v", w, wanted)
		}
		for _, tick := range []uint64{0, 7, api.MaxTick} {
			wantErrno(t, "Check of a new crew", crew.Check(x.c, x.t, w, tick), api.OK)
		}
	}
}

// P8.1: New returns config.Check's error, and ErrArg unless the tenant is present.
func TestNewErrors(t *testing.T) {
	wantNone := func(what string, c api.Config, tenant int, wanted api.Errno) {
		t.Helper()
		w, e := crew.New(c, tenant)
		if e != wanted || !equalCrews(w, api.Crew{}) {
			t.Errorf("New of %s: %v, %d, want the error %d", what, w, e, wanted)
		}
	}
	for _, bad := range badConfigs() {
		for _, tenant := range []int{0, 1, -1, 9} {
			wantNone(bad.what, bad.c, tenant, bad.e)
		}
	}
	for _, tenant := range append([]int{-2, -1, 2, 3, 255}, hugeNumbers...) {
		wantNone("no tenant", exampleConfig(), tenant, api.ErrArg)
	}
	wantNone("an absent tenant", gapScene().c, 1, api.ErrArg)
}

// P8.1: Check, of crews that are valid, and of crews that are not for one reason each.
func TestCheck(t *testing.T) {
	x := crowdScene()
	for _, v := range goodVariants() {
		wantErrno(t, "Check of "+v.what, crew.Check(x.c, x.t, v.w, v.tick), api.OK)
		wantErrno(t, "the definition of "+v.what, specCheck(x, v.w, v.tick), api.OK)
	}
	for _, v := range badVariants() {
		wantErrno(t, "Check of "+v.what, crew.Check(x.c, x.t, v.w, v.tick), api.ErrBad)
		wantErrno(t, "the definition of "+v.what, specCheck(x, v.w, v.tick), api.ErrBad)
	}
}

// P8.1: a crew of no tenant, or at too late a tick, is ErrArg, whatever it is.
func TestCheckArguments(t *testing.T) {
	x := crowdScene()
	for _, w := range []api.Crew{busyCrew(), {}} {
		for _, tick := range lateTicks {
			wantErrno(t, "Check at a late tick", crew.Check(x.c, x.t, w, tick), api.ErrArg)
		}
		for _, tenant := range append([]int{-1, 3}, hugeNumbers...) {
			wantErrno(t, "Check of no tenant", crew.Check(x.c, tenant, w, busyTick), api.ErrArg)
		}
		wantErrno(t, "Check of an absent tenant", crew.Check(gapScene().c, 1, w, busyTick), api.ErrArg)
	}
	// A crew of one tenant is not one of another one.
	wantErrno(t, "Check of a crew of another tenant", crew.Check(exampleConfig(), 1, newCrew(t, exampleScene()), 0), api.ErrBad)
	// MaxTick is 4 more than a multiple of the period: from there on a Mover on an aisle has a way.
	for tick := uint64(api.MaxTick - 13); tick <= api.MaxTick; tick++ {
		wanted := api.ErrBad
		if phase := tick % 13; phase >= 2 && phase <= 6 {
			wanted = api.OK
		}
		wantErrno(t, "Check near MaxTick", crew.Check(x.c, x.t, busyCrew(), tick), wanted)
	}
}

// P8.1: Check of valid crews with something changed.
func TestCheckOfChangedCrews(t *testing.T) {
	good, bad := 0, 0
	for i, s := range goodSamples(t) {
		draw := drawer(i)
		for range 12 {
			w := changed(s.w, func(w *api.Crew) { disturb(draw, w) })
			wanted := specCheck(s.x, w, s.tick)
			if e := crew.Check(s.x.c, s.x.t, w, s.tick); e != wanted {
				t.Errorf("Check of %v at the tick %d of %v: error %d, want %d", w, s.tick, s.x, e, wanted)
			}
			if wanted == api.OK {
				good++
			} else {
				bad++
			}
		}
		later := s.tick + uint64(draw(20))
		wantErrno(t, "Check at another tick", crew.Check(s.x.c, s.x.t, s.w, later), specCheck(s.x, s.w, later))
	}
	if good < 1000 || bad < 1000 {
		t.Errorf("%d crews are valid, %d are not", good, bad)
	}
}

// disturb changes something of a crew by a little.
func disturb(draw func(limit int) int, w *api.Crew) {
	r := &w.Robots[draw(len(w.Robots))]
	other := w.Robots[draw(len(w.Robots))]
	more := []int{-1, 1, 1, 2}[draw(4)]
	switch draw(10) {
	case 0:
		r.Place += more
	case 1:
		r.Place = other.Place
	case 2:
		r.State = uint8(draw(10))
	case 3:
		r.Order += more
	case 4:
		r.Order = draw(4) * other.Order
	case 5:
		r.Left += more
	case 6:
		r.Stall += more
	case 7:
		r.Due = !r.Due
	case 8:
		w.Mover = draw(5) - 2
	default:
		if len(w.Book.Orders) > 0 {
			o := &w.Book.Orders[draw(len(w.Book.Orders))]
			o.State, o.Pick, o.Drop = uint8(2+draw(2)), draw(2), draw(2)
		}
	}
}

// P8.1: Same, of crews that differ in one thing each.
func TestSame(t *testing.T) {
	w := busyCrew()
	changes := []func(w *api.Crew){
		func(w *api.Crew) { w.Mover = -1 },
		func(w *api.Crew) { w.Robots = w.Robots[:2] },
		func(w *api.Crew) { w.Robots = append(w.Robots, api.Robot{}) },
		func(w *api.Crew) { w.Robots[0], w.Robots[1] = w.Robots[1], w.Robots[0] },
		func(w *api.Crew) { w.Book.Orders = w.Book.Orders[:6] },
		func(w *api.Crew) { w.Book.Queue = w.Book.Queue[:1] },
		func(w *api.Crew) { w.Book.Queue[1]++ },
		func(w *api.Crew) { w.Book.Count.Window++ },
		func(w *api.Crew) { w.Book.Count.Many++ },
	}
	for n := range 3 {
		changes = append(changes,
			func(w *api.Crew) { w.Robots[n].Place += 1 << 32 },
			func(w *api.Crew) { w.Robots[n].State++ },
			func(w *api.Crew) { w.Robots[n].Order = -w.Robots[n].Order },
			func(w *api.Crew) { w.Robots[n].Left++ },
			func(w *api.Crew) { w.Robots[n].Stall++ },
			func(w *api.Crew) { w.Robots[n].Due = true })
	}
	for i := range 7 {
		changes = append(changes,
			func(w *api.Crew) { w.Book.Orders[i].Id++ },
			func(w *api.Crew) { w.Book.Orders[i].Pick++ },
			func(w *api.Crew) { w.Book.Orders[i].Drop++ },
			func(w *api.Crew) { w.Book.Orders[i].State++ },
			func(w *api.Crew) { w.Book.Orders[i].At++ },
			func(w *api.Crew) { w.Book.Orders[i].Done++ })
	}
	wantSame := func(what string, a, b api.Crew, wanted bool) {
		t.Helper()
		if crew.Same(a, b) != wanted || crew.Same(b, a) != wanted {
			t.Errorf("Same of %s: %v and %v, want %t", what, a, b, wanted)
		}
	}
	wantSame("a crew and a copy", w, copied(w), true)
	wantSame("two empty crews", api.Crew{}, api.Crew{Robots: []api.Robot{}, Book: api.Book{Orders: []api.Order{}, Queue: []int{}}}, true)
	wantSame("a crew and none", w, api.Crew{}, false)
	for _, change := range changes {
		other := changed(w, change)
		wantSame("different crews", w, other, false)
		wantSame("a crew that is not valid, and a copy", other, copied(other), true)
	}
}

// P8.2: Stall, of a robot in each condition.
func TestStall(t *testing.T) {
	x := crowdScene()
	for n := range 3 {
		r := action{kind: stall, n: n}.run(x, busyCrew(), busyTick)
		wantResult(t, "Stall", r, result{w: changed(busyCrew(), func(w *api.Crew) { w.Robots[n].Due = true })})
		again := action{kind: stall, n: n}.run(x, r.w, busyTick)
		wantResult(t, "Stall of one that is due", again, r)
	}
	for _, left := range []int{1, 13} {
		held := changed(busyCrew(), func(w *api.Crew) { w.Robots[1].Stall = left })
		wantResult(t, "Stall of one that is held", action{kind: stall, n: 1}.run(x, held, busyTick), result{w: held})
	}
	for _, n := range append([]int{-2, -1, 3, 4, 255}, hugeNumbers...) {
		wantResult(t, "Stall of no robot", action{kind: stall, n: n}.run(x, busyCrew(), busyTick), result{e: api.ErrArg})
	}
}

// P8.2: Stalled, whichever robot is due or held.
func TestStalled(t *testing.T) {
	x := crowdScene()
	is, e := crew.Stalled(x.c, x.t, busyCrew(), busyTick)
	want(t, "Stalled", is, e, false, api.OK)
	for n := range 3 {
		due := changed(busyCrew(), func(w *api.Crew) { w.Robots[n].Due = true })
		is, e = crew.Stalled(x.c, x.t, due, busyTick)
		want(t, "Stalled with one that is due", is, e, true, api.OK)
		held := changed(busyCrew(), func(w *api.Crew) { w.Robots[0].Place, w.Robots[n].Stall = 30, 1 })
		is, e = crew.Stalled(x.c, x.t, held, busyTick)
		want(t, "Stalled with one that is held", is, e, true, api.OK)
	}
}

// P8.2: Rest, while there are robots that are not idle, or queued orders.
func TestRest(t *testing.T) {
	x := crowdScene()
	wantRest := func(what string, w api.Crew, wanted bool) {
		t.Helper()
		is, e := crew.Rest(x.c, x.t, w, busyTick)
		want(t, "Rest of "+what, is, e, wanted, api.OK)
	}
	idle := func(states ...uint8) api.Crew {
		return crewOf(bookOf(states...), api.Robot{Place: 24}, api.Robot{Place: 32}, api.Robot{Place: 33})
	}
	wantRest("a new crew", newCrew(t, x), true)
	wantRest("a crew whose orders are at their ends", idle(api.OrderDone, api.OrderCancelled), true)
	wantRest("a crew with a queued order", idle(api.OrderDone, api.OrderQueued), false)
	wantRest("a crew with stalls", changed(idle(), func(w *api.Crew) { w.Robots[0].Due, w.Robots[2].Stall = true, 3 }), true)
	wantRest("a busy crew", busyCrew(), false)
	for n := range 3 {
		wantRest("a crew with an empty robot", changed(idle(), func(w *api.Crew) { w.Robots[n] = api.Robot{Place: 34, State: api.RobotEmpty} }), false)
		wantRest("a crew with one that goes home", changed(idle(), func(w *api.Crew) {
			w.Robots[n] = api.Robot{Place: 30, State: api.RobotToHome}
			w.Mover = n
		}), false)
		wantRest("a crew with one that is called", changed(idle(api.OrderAssigned), func(w *api.Crew) {
			w.Robots[n].State, w.Robots[n].Order = api.RobotCalled, 1
		}), false)
	}
}

// P8.2: Goal, of a robot in each state.
func TestGoal(t *testing.T) {
	x := crowdScene()
	wantGoal := func(what string, w api.Crew, n, wanted int, wantE api.Errno) {
		t.Helper()
		p, e := crew.Goal(x.c, x.t, w, n, busyTick)
		want(t, "Goal of "+what, p, e, wanted, wantE)
	}
	wantGoal("one on the way to a drop", busyCrew(), 0, 29, api.OK)
	wantGoal("one that is loading", busyCrew(), 1, 0, api.ErrNone)
	wantGoal("one that is called", busyCrew(), 2, 31, api.OK)
	wantGoal("one that is idle", newCrew(t, x), 1, 0, api.ErrNone)
	b := bookOf(api.OrderDone, api.OrderCarrying, api.OrderAssigned)
	b.Orders[1].Pick, b.Orders[1].Drop, b.Orders[2].Pick = 2, 2, 1
	w := crewOf(b, api.Robot{Place: 26, State: api.RobotEmpty}, api.Robot{Place: 39, State: api.RobotLoaded, Order: 2}, api.Robot{Place: 20, State: api.RobotToPick, Order: 3})
	wantGoal("one that is empty", w, 0, 24, api.OK)
	wantGoal("one that is loaded", w, 1, 34, api.OK)
	wantGoal("one on the way to a pick", w, 2, 38, api.OK)
	w.Robots[1] = api.Robot{Place: 34, State: api.RobotUnloading, Order: 2, Left: 2}
	w.Robots[2] = api.Robot{Place: 20, State: api.RobotToHome}
	w.Book.Orders[2].State = api.OrderCancelled
	wantGoal("one that is unloading", w, 1, 0, api.ErrNone)
	wantGoal("one on the way home", w, 2, 33, api.OK)
	for _, n := range append([]int{-2, -1, 3, 4, 255}, hugeNumbers...) {
		wantGoal("no robot", busyCrew(), n, 0, api.ErrArg)
	}
}

// P8.3: Submit and Cancel do to the book what layer 5 does, and nothing to the robots.
func TestSubmitAndCancel(t *testing.T) {
	x := crowdScene()
	m := x.c.Teams[x.t]
	for _, a := range []action{{submit, 2, 1, 0}, {submit, 0, 2, 0}, {submit, 3, 0, 0}, {submit, 0, -1, 0}} {
		r := a.run(x, busyCrew(), busyTick)
		b, id, e := orders.Submit(m, busyCrew().Book, a.pick, a.drop, busyTick)
		if e != api.OK {
			wantResult(t, "Submit", r, result{e: api.ErrArg})
			continue
		}
		wantResult(t, "Submit", r, result{w: changed(busyCrew(), func(w *api.Crew) { w.Book = b }), id: id})
		if o := r.w.Book.Orders[7]; o != (api.Order{Id: 8, Pick: a.pick, Drop: a.drop, State: api.OrderQueued, At: busyTick}) || r.id != 8 {
			t.Errorf("Submit: %v, %d", o, r.id)
		}
	}
	r := action{kind: cancel, n: 6}.run(x, busyCrew(), busyTick)
	wantResult(t, "Cancel", r, result{w: changed(busyCrew(), func(w *api.Crew) { w.Book.Orders[5].State, w.Book.Queue = api.OrderCancelled, []int{7} })})
	wantCancel := func(id int, wanted api.Errno) {
		t.Helper()
		wantResult(t, "Cancel", action{kind: cancel, n: id}.run(x, busyCrew(), busyTick), result{e: wanted})
	}
	for id := 1; id <= 5; id++ {
		wantCancel(id, api.ErrState)
	}
	for _, id := range append([]int{-1, 0, 8, 64, 65}, hugeNumbers...) {
		wantCancel(id, api.ErrNone)
	}
}

// P8.3: Submit returns the errors of layer 5: for quota, queue and number of orders.
func TestSubmitLimits(t *testing.T) {
	x := exampleScene()
	w := newCrew(t, x)
	wantSubmit := func(w api.Crew, pick int, tick uint64, wanted api.Errno) {
		t.Helper()
		wantResult(t, "Submit", action{submit, pick, 0, 0}.run(x, w, tick), result{e: wanted})
	}
	for range 2 {
		w = after(t, x, w, 7, action{kind: submit})
	}
	wantSubmit(w, 0, 7, api.ErrFull)
	wantSubmit(w, 1, 7, api.ErrArg)
	w = after(t, x, w, 7, action{kind: cancel, n: 1})
	wantSubmit(w, 0, 7, api.ErrQuota)
	// The tick is the present one: in the next window the quota is free again.
	w = after(t, x, w, 8, action{kind: submit})
	if o := w.Book.Orders[2]; o.At != 8 || w.Book.Count != (api.Count{Window: 1, Many: 1}) {
		t.Errorf("Submit at the tick 8: %v, %v", o, w.Book.Count)
	}
	wantSubmit(newCrew(t, x), 0, api.MaxTick+1, api.ErrArg)
	last := after(t, x, newCrew(t, x), api.MaxTick, action{kind: submit})
	if last.Book.Orders[0].At != api.MaxTick {
		t.Errorf("Submit at MaxTick: %v", last.Book)
	}
	full := newCrew(t, x)
	full.Book = bookOf(slices.Repeat([]uint8{api.OrderCancelled}, 64)...)
	wantSubmit(full, 0, 9, api.ErrMany)
}

// P8.3: View returns place, state and order of each robot, and how many orders are queued.
func TestView(t *testing.T) {
	x := crowdScene()
	robots, queued, e := crew.View(x.c, x.t, busyCrew(), busyTick)
	wanted := []api.Sight{{Place: 20, State: api.RobotToDrop, Order: 1}, {Place: 38, State: api.RobotLoading, Order: 2}, {Place: 33, State: api.RobotCalled, Order: 5}}
	if !slices.Equal(robots, wanted) || queued != 2 || e != api.OK {
		t.Errorf("View: %v, %d, %d", robots, queued, e)
	}
	robots, queued, e = crew.View(x.c, x.t, newCrew(t, x), busyTick)
	if !slices.Equal(robots, []api.Sight{{Place: 24}, {Place: 32}, {Place: 33}}) || queued != 0 || e != api.OK {
		t.Errorf("View of a new crew: %v, %d, %d", robots, queued, e)
	}
}

// P8.2, P8.3: what is asked of crews of all kinds.
func TestQuestions(t *testing.T) {
	for _, s := range goodSamples(t) {
		isStalled, isBusy := false, len(s.w.Book.Queue) > 0
		var sights []api.Sight
		for n, r := range s.w.Robots {
			isStalled = isStalled || r.Due || r.Stall > 0
			isBusy = isBusy || r.State != 0
			sights = append(sights, api.Sight{Place: r.Place, State: r.State, Order: r.Order})
			wanted, wantE := 0, api.ErrNone
			if goal, has := specGoal(s.x, s.w, n); has {
				wanted, wantE = goal, api.OK
			}
			p, e := crew.Goal(s.x.c, s.x.t, s.w, n, s.tick)
			want(t, "Goal", p, e, wanted, wantE)
		}
		is, e := crew.Stalled(s.x.c, s.x.t, s.w, s.tick)
		want(t, "Stalled", is, e, isStalled, api.OK)
		is, e = crew.Rest(s.x.c, s.x.t, s.w, s.tick)
		want(t, "Rest", is, e, !isBusy, api.OK)
		robots, queued, e := crew.View(s.x.c, s.x.t, s.w, s.tick)
		if !slices.Equal(robots, sights) || queued != len(s.w.Book.Queue) || e != api.OK {
			t.Errorf("View: %v, %d, %d, want %v", robots, queued, e, sights)
		}
	}
}

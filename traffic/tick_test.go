package traffic_test

import (
	"testing"

	"dunnage/api"
	"dunnage/traffic"
)

// wantTick does a step, and checks the places of all robots, the table, and the orders that are done.
func wantTick(t *testing.T, c api.Config, f api.Fleet, places []int, claims []api.Claim, done ...api.Finish) api.Fleet {
	t.Helper()
	r := action{kind: step}.run(c, f)
	if r.e != api.OK || r.f.Tick != f.Tick+1 {
		t.Fatalf("Step of the tick %d: the tick %d, the error %d", f.Tick, r.f.Tick, r.e)
	}
	var got []int
	for _, x := range positionsOf(t, c, r.f) {
		got = append(got, x.Place)
	}
	wantList(t, "the places", got, r.e, places, api.OK)
	wantList(t, "the table", r.f.Claims, r.e, claims, api.OK)
	wantList(t, "the orders that are done", r.done, r.e, done, api.OK)
	return r.f
}

// P9.5, P9.4: the chapter's example, up to the end of both orders.
func TestExample(t *testing.T) {
	c := exampleConfig()
	f := newFleet(t, c)
	wantList(t, "Positions", positionsOf(t, c, f), api.OK, []api.Position{{Tenant: 0, Robot: 0, Place: 0}, {Tenant: 1, Robot: 0, Place: 10}}, api.OK)
	for tenant := range 2 {
		r := action{kind: submit, t: tenant}.run(c, f)
		if f = r.f; r.id != 1 || r.e != api.OK {
			t.Fatalf("Submit: %v", r)
		}
	}
	f = wantTick(t, c, f, []int{5, 15}, nil)
	f = wantTick(t, c, f, []int{5, 15}, nil)
	plan0, plan1 := claimsOf(0, 0, 4, 6, 1, 2, 3, 4), claimsOf(1, 0, 4, 17, 18, 13, 14)
	rest := func(i, j int) []api.Claim { return specSorted(append(plan0[i:len(plan0):len(plan0)], plan1[j:]...)) }
	f = wantTick(t, c, f, []int{5, 16}, rest(0, 0))
	if len(f.Claims) != 9 {
		t.Errorf("the table has %d claims", len(f.Claims))
	}
	for tenant, wanted := range [][]int{{6, 1, 2, 3, 4}, {17, 18, 13, 14}} {
		l, e := traffic.Plan(c, f, tenant)
		wantList(t, "Plan", l, e, wanted, api.OK)
	}
	f = wantTick(t, c, f, []int{6, 17}, rest(1, 1))
	f = wantTick(t, c, f, []int{1, 18}, rest(2, 2))
	f = wantTick(t, c, f, []int{2, 13}, rest(3, 3))
	f = wantTick(t, c, f, []int{3, 14}, rest(4, 4))
	f = wantTick(t, c, f, []int{4, 14}, nil, api.Finish{Tenant: 1, Order: 1})
	// The robot of tenant 1 is on its way home.
	f = wantTick(t, c, f, []int{4, 13}, claimsOf(1, 0, 10, 12, 11, 10), api.Finish{Tenant: 0, Order: 1})
	if f.Tick != 9 || f.Crews[0].Book.Orders[0].Done != 9 || f.Crews[1].Book.Orders[0].Done != 8 {
		t.Errorf("at the end: %v", f)
	}
}

// P9.5, parts 2 and 4: Movers keep their claims, and get them if they have none; those up to the next tick are removed.
func TestClaimsOfMovers(t *testing.T) {
	c := crowdConfig()
	places := []int{2, 21, 38, 33, 49}
	later := specWithout(busyTable(0, 1, 2), func(x api.Claim) bool { return x.Tick == 16 })
	for _, some := range [][]int{{0, 1, 2}, {0, 1}, {0, 2}, {1, 2}, {0}, {1}, {2}, {}} {
		f := changed(busyFleet(), func(f *api.Fleet) { f.Claims = busyTable(some...) })
		wantTick(t, c, f, places, later)
	}
	// Who becomes the Mover in a tick has its claims from this tick on.
	f := changed(busyFleet(), func(f *api.Fleet) {
		f.Crews[2] = api.Crew{Robots: []api.Robot{{Place: 58, State: api.RobotEmpty}}, Mover: -1}
		f.Claims = busyTable(0, 1)
	})
	wantTick(t, c, f, []int{2, 21, 38, 33, 50}, specSorted(append(claimsOf(2, 0, 17, 49, 48), without(busyTable(0, 1), 16)...)))
	// Who is at its goal has none.
	f = changed(busyFleet(), func(f *api.Fleet) {
		f.Crews[1].Robots[0].Place, f.Claims = 29, busyTable(0, 2)
	})
	wantTick(t, c, f, []int{2, 29, 38, 33, 49}, without(busyTable(0, 2), 16))
}

// without returns the claims at other ticks than the given one.
func without(l []api.Claim, tick uint64) []api.Claim {
	return specWithout(l, func(x api.Claim) bool { return x.Tick == tick })
}

// P9.5, part 2: a Mover that is held loses its claims, the others keep theirs, and it gets new ones when it is not held any more.
func TestClaimsOfHeldMovers(t *testing.T) {
	c := crowdConfig()
	f := after(t, c, busyFleet(), action{kind: stall, t: 0})
	wantList(t, "the table after Stall", f.Claims, api.OK, busyTable(0, 1, 2), api.OK)
	f = wantTick(t, c, f, []int{2, 21, 38, 33, 49}, without(busyTable(1, 2), 16))
	for f.Tick < 28 {
		f = after(t, c, f, action{kind: step})
		if _, is, e := traffic.Find(f.Claims, 0, 0, f.Tick+1); is || e != api.OK || f.Crews[0].Robots[0].Place != 2 {
			t.Errorf("after the tick %d: %v", f.Tick-1, f)
		}
	}
	// A period later it goes on as it would have gone at first.
	f = after(t, c, f, action{kind: step})
	l, e := traffic.Plan(c, f, 0)
	wantList(t, "Plan after the stall", l, e, []int{2, 2, 2, 2, 2, 2, 2, 2, 2, 3, 4, 5, 6, 7}, api.OK)
	// Who has no claims when it is held, as one that is held at first, gets none.
	held := changed(busyFleet(), func(f *api.Fleet) {
		f.Crews[2].Robots[0].Stall, f.Claims = 1, busyTable(0, 1)
	})
	held = wantTick(t, c, held, []int{2, 21, 38, 33, 57}, without(busyTable(0, 1), 16))
	wantTick(t, c, held, []int{2, 29, 38, 33, 49}, specSorted(append(claimsOf(2, 0, 18, 48), without(busyTable(0), 16)[1:]...)))
}

// P9.5, part 2: a Mover that is due on an aisle is not held: it keeps its claims up to the next private cell.
func TestClaimsOfDueMovers(t *testing.T) {
	c := islandConfig()
	f := changed(idleFleet(c), func(f *api.Fleet) {
		w := &f.Crews[0]
		w.Robots[0], w.Mover = api.Robot{Place: 4, State: api.RobotToHome, Due: true}, 0
		f.Tick, f.Claims = 4, claimsOf(0, 0, 5, 3, 2, 2, 2)
	})
	// There is no such route: the table is not one of a fleet.
	wantErrno(t, "Check", traffic.Check(c, f), api.ErrBad)
	f.Claims = claimsOf(0, 0, 5, 3, 2, 1, 0)
	f = wantTick(t, c, f, []int{3, 16}, claimsOf(0, 0, 6, 2, 1, 0))
	if r := f.Crews[0].Robots[0]; r != (api.Robot{Place: 3, State: api.RobotToHome, Due: true}) {
		t.Errorf("the Mover on the island: %v", r)
	}
	f = wantTick(t, c, f, []int{3, 16}, nil)
	if r := f.Crews[0].Robots[0]; r != (api.Robot{Place: 3, State: api.RobotToHome, Stall: 8}) {
		t.Errorf("the Mover that is held on the island: %v", r)
	}
	for f.Tick < 14 {
		f = wantTick(t, c, f, []int{3, 16}, nil)
	}
	wantTick(t, c, f, []int{2, 16}, claimsOf(0, 0, 16, 1, 0))
}

// P9.5: the orders that are done are named tenant by tenant, and for each tenant robot by robot.
func TestFinishes(t *testing.T) {
	carrying := func(id, drop int) api.Order { return api.Order{Id: id, Drop: drop, State: api.OrderCarrying} }
	unloading := func(place, id, left int) api.Robot {
		return api.Robot{Place: place, State: api.RobotUnloading, Order: id, Left: left}
	}
	f := api.Fleet{Tick: 30, Crews: []api.Crew{
		{Robots: []api.Robot{unloading(1, 1, 1)}, Book: api.Book{Orders: []api.Order{carrying(1, 0)}}, Mover: -1},
		{
			Robots: []api.Robot{unloading(26, 3, 1), unloading(34, 1, 2), unloading(29, 2, 1)},
			Book:   api.Book{Orders: []api.Order{carrying(1, 2), carrying(2, 1), carrying(3, 0)}},
			Mover:  -1,
		},
		{Robots: []api.Robot{unloading(58, 1, 1)}, Book: api.Book{Orders: []api.Order{carrying(1, 0)}}, Mover: -1},
	}}
	f = wantTick(t, crowdConfig(), f, []int{1, 26, 34, 29, 58}, nil,
		api.Finish{Tenant: 0, Order: 1}, api.Finish{Tenant: 1, Order: 3}, api.Finish{Tenant: 1, Order: 2}, api.Finish{Tenant: 2, Order: 1})
	if o := f.Crews[1].Book.Orders[2]; o.State != api.OrderDone || o.Done != 31 {
		t.Errorf("the order 3: %v", o)
	}
	r := action{kind: step}.run(crowdConfig(), f)
	wantList(t, "the orders that are done next", r.done, r.e, []api.Finish{{Tenant: 1, Order: 1}}, api.OK)
}

// P9.5: Step at the last ticks: ErrHalted at MaxTick, and before it claims beyond it.
func TestLastTicks(t *testing.T) {
	for _, v := range goodVariants() {
		if v.what == "the last tick" {
			wantResult(t, "Step at MaxTick", action{kind: step}.run(v.c, v.f), result{e: api.ErrHalted})
			bad := changed(v.f, func(f *api.Fleet) { f.Claims = f.Claims[1:] })
			wantResult(t, "Step of a bad fleet at MaxTick", action{kind: step}.run(v.c, bad), result{e: api.ErrBad})
		}
	}
	c := crowdConfig()
	wantResult(t, "Step of an idle fleet at MaxTick", action{kind: step}.run(c, changed(idleFleet(c), func(f *api.Fleet) { f.Tick = api.MaxTick })), result{e: api.ErrHalted})
	// MaxTick less 2 is as far in the period as the busy tick.
	f := changed(busyFleet(), func(f *api.Fleet) { f.Tick, f.Claims = api.MaxTick-2, nil })
	f = after(t, c, f, action{kind: step})
	for i, x := range without(busyTable(0, 1, 2), 16) {
		x.Tick += api.MaxTick - 17
		if f.Claims[i] != x {
			t.Errorf("a claim is %v, want %v", f.Claims[i], x)
		}
	}
	f = after(t, c, f, action{kind: step})
	wantResult(t, "Step at MaxTick", action{kind: step}.run(c, f), result{e: api.ErrHalted})
	if f.Tick != api.MaxTick || f.Crews[1].Robots[0].State != api.RobotUnloading {
		t.Errorf("at MaxTick: %v", f)
	}
	f = after(t, c, f, action{kind: stall, t: 0}, action{kind: submit, t: 2}, action{kind: cancel, t: 2, n: 2})
	wantErrno(t, "Check at MaxTick", traffic.Check(c, f), api.OK)
}

// P9.4, P9.5: all actions of long histories, and of fleets of all kinds, do what the chapter says.
func TestActions(t *testing.T) {
	t.Parallel()
	succeeded, failed := map[int]int{}, map[api.Errno]int{}
	eachMoment(func(c api.Config, m moment) {
		wantResult(t, "an action of a history", m.after, specRun(m.a, c, m.before))
		if m.after.e == api.OK {
			succeeded[m.a.kind]++
		}
		failed[m.after.e]++
	})
	for kind := submit; kind <= step; kind++ {
		if succeeded[kind] < 100 {
			t.Errorf("the action %d succeeded %d times", kind, succeeded[kind])
		}
	}
	for _, e := range []api.Errno{api.ErrArg, api.ErrNone, api.ErrFull, api.ErrState, api.ErrQuota, api.ErrHalted} {
		if failed[e] == 0 {
			t.Errorf("the error %d was never returned", e)
		}
	}
	for _, s := range goodSamples() {
		for kind := submit; kind <= step; kind++ {
			for tenant := range s.f.Crews {
				a := action{kind: kind, t: tenant, n: 1}
				wantResult(t, "an action of a sample", a.run(s.c, s.f), specRun(a, s.c, s.f))
			}
		}
	}
}

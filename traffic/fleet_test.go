package traffic_test

import (
	"slices"
	"testing"

	"dunnage/api"
	"dunnage/crew"
	"dunnage/traffic"
)

// P9.3: New returns a fleet with new crews, an empty table, and the tick Start; absent tenants have empty crews without a Mover.
func TestNew(t *testing.T) {
	f := newFleet(t, gapConfig())
	wanted := api.Fleet{Tick: 7, Crews: []api.Crew{{Robots: []api.Robot{{Place: 0}}, Mover: -1}, {Mover: -1}, {Robots: []api.Robot{{Place: 10}}, Mover: -1}}}
	if !equalFleets(f, wanted) {
		t.Errorf("New: %v, want %v", f, wanted)
	}
	for _, c := range soundConfigs() {
		for _, start := range []uint64{0, c.Start, api.MaxTick} {
			c.Start = start
			f := newFleet(t, c)
			if !equalFleets(f, idleFleet(c)) {
				t.Errorf("New: %v, want %v", f, idleFleet(c))
			}
			wantErrno(t, "Check of a new fleet", traffic.Check(c, f), api.OK)
			for tenant, w := range f.Crews {
				if specIsPresent(c, tenant) {
					if wanted, e := crew.New(c, tenant); e != api.OK || !equalCrews(w, wanted) {
						t.Errorf("New: the crew %v, want %v", w, wanted)
					}
				}
			}
		}
	}
}

// P9.3: New returns config.Check's error, and ErrRoute unless the config is sound.
func TestNewErrors(t *testing.T) {
	wantNone := func(what string, c api.Config, wanted api.Errno) {
		t.Helper()
		if f, e := traffic.New(c); e != wanted || !equalFleets(f, api.Fleet{}) {
			t.Errorf("New of %s: %v, %d, want the error %d", what, f, e, wanted)
		}
	}
	for _, bad := range badConfigs() {
		wantNone(bad.what, bad.c, bad.e)
	}
	wantNone("a config that is not sound", stuckConfig(), api.ErrRoute)
	// The other tenant's legs have routes.
	other := exampleConfig()
	other.Slices = []uint8{1, 1, 0}
	wantNone("a config that is not sound for its last tenant", other, api.ErrRoute)
	late := stuckConfig()
	late.Start = api.MaxTick + 1
	wantNone("a config that is neither valid nor sound", late, api.ErrArg)
}

// P9.3: Same, of fleets that differ in one thing each.
func TestSame(t *testing.T) {
	changes := []func(f *api.Fleet){
		func(f *api.Fleet) { f.Tick++ },
		func(f *api.Fleet) { f.Tick += 1 << 32 },
		func(f *api.Fleet) { f.Crews = f.Crews[:2] },
		func(f *api.Fleet) { f.Crews = append(f.Crews, api.Crew{}) },
		func(f *api.Fleet) { f.Crews[0], f.Crews[2] = f.Crews[2], f.Crews[0] },
		func(f *api.Fleet) { f.Claims = f.Claims[1:] },
		func(f *api.Fleet) { f.Claims = f.Claims[:18] },
		func(f *api.Fleet) { f.Claims = append(f.Claims, api.Claim{}) },
		func(f *api.Fleet) { f.Claims = nil },
	}
	for i := range busyFleet().Claims {
		changes = append(changes,
			func(f *api.Fleet) { f.Claims[i].Tick++ },
			func(f *api.Fleet) { f.Claims[i].Place++ },
			func(f *api.Fleet) { f.Claims[i].Tenant++ },
			func(f *api.Fleet) { f.Claims[i].Robot-- })
	}
	for n := range 3 {
		changes = append(changes,
			func(f *api.Fleet) { f.Crews[n].Mover-- },
			func(f *api.Fleet) { f.Crews[n].Robots[0].Place++ },
			func(f *api.Fleet) { f.Crews[n].Robots[0].Due = true },
			func(f *api.Fleet) { f.Crews[n].Book.Orders[0].Done++ },
			func(f *api.Fleet) { f.Crews[n].Book.Queue = append(f.Crews[n].Book.Queue, 1) },
			func(f *api.Fleet) { f.Crews[n].Book.Count.Many++ })
	}
	wantSame := func(what string, a, b api.Fleet, wanted bool) {
		t.Helper()
		if traffic.Same(a, b) != wanted || traffic.Same(b, a) != wanted {
			t.Errorf("Same of %s: %v and %v, want %t", what, a, b, wanted)
		}
	}
	wantSame("a fleet and a copy", busyFleet(), copied(busyFleet()), true)
	wantSame("two empty fleets", api.Fleet{}, api.Fleet{Crews: []api.Crew{}, Claims: []api.Claim{}}, true)
	empty := api.Crew{Robots: []api.Robot{}, Book: api.Book{Orders: []api.Order{}, Queue: []int{}}}
	wantSame("two fleets of an empty crew", api.Fleet{Crews: []api.Crew{{}}}, api.Fleet{Crews: []api.Crew{empty}}, true)
	wantSame("a fleet and none", busyFleet(), api.Fleet{}, false)
	wantSame("a fleet of an empty crew and none", api.Fleet{Crews: []api.Crew{{}}}, api.Fleet{}, false)
	for _, change := range changes {
		other := changed(busyFleet(), change)
		wantSame("different fleets", busyFleet(), other, false)
		wantSame("a fleet that is not valid, and a copy", other, copied(other), true)
	}
}

// P9.4: Submit, Cancel and Stall change one crew, as layer 8 does at the fleet's tick, and nothing else.
func TestChanges(t *testing.T) {
	c := crowdConfig()
	r := action{kind: submit, t: 1, pick: 2, drop: 1}.run(c, busyFleet())
	wantResult(t, "Submit", r, result{id: 5, f: changed(busyFleet(), func(f *api.Fleet) {
		b := &f.Crews[1].Book
		b.Orders = append(b.Orders, api.Order{Id: 5, Pick: 2, Drop: 1, State: api.OrderQueued, At: busyTick})
		b.Queue, b.Count.Many = []int{4, 5}, 3
	})})
	r = action{kind: submit, t: 2}.run(c, busyFleet())
	wantResult(t, "Submit of another tenant", r, result{id: 2, f: changed(busyFleet(), func(f *api.Fleet) {
		b := &f.Crews[2].Book
		b.Orders = append(b.Orders, api.Order{Id: 2, State: api.OrderQueued, At: busyTick})
		b.Queue, b.Count = []int{2}, api.Count{Window: 1, Many: 1}
	})})
	r = action{kind: cancel, t: 1, n: 4}.run(c, busyFleet())
	wantResult(t, "Cancel", r, result{f: changed(busyFleet(), func(f *api.Fleet) {
		f.Crews[1].Book.Orders[3].State, f.Crews[1].Book.Queue = api.OrderCancelled, nil
	})})
	for tenant := range 3 {
		r = action{kind: stall, t: tenant}.run(c, busyFleet())
		wantResult(t, "Stall", r, result{f: changed(busyFleet(), func(f *api.Fleet) { f.Crews[tenant].Robots[0].Due = true })})
		again := action{kind: stall, t: tenant}.run(c, r.f)
		wantResult(t, "Stall again", again, r)
	}
}

// P9.4: Submit, Cancel and Stall return ErrArg unless the tenant is present, and then the errors of layers 8 and 5.
func TestChangeErrors(t *testing.T) {
	c := crowdConfig()
	wantError := func(what string, a action, c api.Config, f api.Fleet, wanted api.Errno) {
		t.Helper()
		wantResult(t, what, a.run(c, f), result{e: wanted})
	}
	for _, kind := range []int{submit, cancel, stall} {
		for _, tenant := range append([]int{-2, -1, 3, 4, 255}, hugeNumbers...) {
			wantError("a change of no tenant", action{kind: kind, t: tenant, n: 4}, c, busyFleet(), api.ErrArg)
		}
		wantError("a change of an absent tenant", action{kind: kind, t: 1, n: 1}, gapConfig(), gapFleet(), api.ErrArg)
	}
	for _, n := range append([]int{-1, 3}, hugeNumbers...) {
		wantError("Submit of no pick", action{kind: submit, t: 1, pick: n}, c, busyFleet(), api.ErrArg)
		wantError("Submit of no drop", action{kind: submit, t: 1, drop: n}, c, busyFleet(), api.ErrArg)
		wantError("Stall of no robot", action{kind: stall, t: 1, n: n}, c, busyFleet(), api.ErrArg)
	}
	wantError("Stall of a robot of another tenant", action{kind: stall, t: 0, n: 1}, c, busyFleet(), api.ErrArg)
	for id := 1; id <= 3; id++ {
		wantError("Cancel of an order that is not queued", action{kind: cancel, t: 1, n: id}, c, busyFleet(), api.ErrState)
	}
	for _, id := range append([]int{-1, 0, 5, 64, 65}, hugeNumbers...) {
		wantError("Cancel of no order", action{kind: cancel, t: 1, n: id}, c, busyFleet(), api.ErrNone)
	}
	f := after(t, c, busyFleet(), action{kind: submit, t: 0}, action{kind: submit, t: 0})
	wantError("Submit to a full queue", action{kind: submit, t: 0}, c, f, api.ErrFull)
	f = after(t, c, f, action{kind: cancel, t: 0, n: 2})
	wantError("Submit beyond the quota", action{kind: submit, t: 0}, c, f, api.ErrQuota)
	// The tick is the fleet's: in the next window, from 16 on, the quota is free again.
	f = after(t, c, f, action{kind: step}, action{kind: submit, t: 0})
	if o := f.Crews[0].Book.Orders[3]; o.At != 16 || f.Crews[0].Book.Count != (api.Count{Window: 2, Many: 1}) {
		t.Errorf("Submit at the tick 16: %v, %v", o, f.Crews[0].Book.Count)
	}
	full := changed(idleFleet(c), func(f *api.Fleet) {
		for id := 1; id <= 64; id++ {
			f.Crews[2].Book.Orders = append(f.Crews[2].Book.Orders, api.Order{Id: id, State: api.OrderCancelled})
		}
	})
	wantError("Submit to a full book", action{kind: submit, t: 2}, c, full, api.ErrMany)
	last := changed(idleFleet(c), func(f *api.Fleet) { f.Tick = api.MaxTick })
	if r := (action{kind: submit, t: 2}).run(c, last); r.e != api.OK || r.f.Crews[2].Book.Orders[0].At != api.MaxTick {
		t.Errorf("Submit at MaxTick: %v", r)
	}
}

// P9.4: Plan returns the places of a Mover's claims, in the order of their ticks.
func TestPlan(t *testing.T) {
	c := crowdConfig()
	wantPlan := func(what string, c api.Config, f api.Fleet, tenant int, wanted []int, wantE api.Errno) {
		t.Helper()
		l, e := traffic.Plan(c, f, tenant)
		wantList(t, "Plan of "+what, l, e, wanted, wantE)
	}
	wantPlan("the tenant 0", c, busyFleet(), 0, []int{2, 2, 2, 2, 2, 2, 2, 2, 2, 2, 3, 4, 5, 6, 7}, api.OK)
	wantPlan("the tenant 1", c, busyFleet(), 1, []int{21, 29}, api.OK)
	wantPlan("the tenant 2", c, busyFleet(), 2, []int{49, 48}, api.OK)
	some := changed(busyFleet(), func(f *api.Fleet) { f.Claims = busyTable(0, 2) })
	wantPlan("a Mover without claims", c, some, 1, nil, api.OK)
	wantPlan("another one", c, some, 2, []int{49, 48}, api.OK)
	for tenant := range 3 {
		wantPlan("an idle crew", c, idleFleet(c), tenant, nil, api.OK)
	}
	for _, tenant := range append([]int{-2, -1, 3, 4, 255}, hugeNumbers...) {
		wantPlan("no tenant", c, busyFleet(), tenant, nil, api.ErrArg)
	}
	wantPlan("an absent tenant", gapConfig(), gapFleet(), 1, nil, api.ErrArg)
	wantPlan("a tenant beyond an absent one", gapConfig(), gapFleet(), 2, nil, api.OK)
}

// P9.4: Positions returns where all robots are, tenant by tenant, and robot by robot.
func TestPositions(t *testing.T) {
	l, e := traffic.Positions(crowdConfig(), busyFleet())
	wantList(t, "Positions", l, e, []api.Position{
		{Tenant: 0, Robot: 0, Place: 2}, {Tenant: 1, Robot: 0, Place: 20}, {Tenant: 1, Robot: 1, Place: 38}, {Tenant: 1, Robot: 2, Place: 33}, {Tenant: 2, Robot: 0, Place: 57},
	}, api.OK)
	l, e = traffic.Positions(gapConfig(), gapFleet())
	wantList(t, "Positions", l, e, []api.Position{{Tenant: 0, Place: 0}, {Tenant: 2, Place: 10}}, api.OK)
}

// P9.4: what is asked of fleets of all kinds.
func TestQuestions(t *testing.T) {
	for _, s := range goodSamples() {
		for tenant := -1; tenant <= len(s.f.Crews); tenant++ {
			l, e := traffic.Plan(s.c, s.f, tenant)
			wanted, wantE := specPlan(s.c, s.f, tenant)
			wantList(t, "Plan", l, e, wanted, wantE)
		}
		l, e := traffic.Positions(s.c, s.f)
		wantList(t, "Positions", l, e, specPositions(s.f), api.OK)
		if !slices.IsSortedFunc(l, func(a, b api.Position) int { return a.Tenant*10 + a.Robot - b.Tenant*10 - b.Robot }) {
			t.Errorf("Positions: %v", l)
		}
	}
}

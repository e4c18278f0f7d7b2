package traffic_test

import (
	"slices"
	"testing"

	"dunnage/api"
	"dunnage/config"
	"dunnage/crew"
	"dunnage/route"
	"dunnage/traffic"
)

// P9.7, N5: in a fleet Judge finds no breach, whatever is submitted, cancelled and stalled; who is not held is where the table says.
func TestNoBreaches(t *testing.T) {
	t.Parallel()
	moves, aisles, planned := 0, 0, 0
	check := func(c api.Config, m moment) {
		if m.a.kind != step || m.after.e != api.OK {
			return
		}
		before, after := positionsOf(t, c, m.before), positionsOf(t, c, m.after.f)
		breaches, e := traffic.Judge(c, before, after, m.before.Tick)
		wantList(t, "Judge", breaches, e, nil, api.OK)
		for i, x := range after {
			if x.Place == before[i].Place {
				continue
			}
			moves++
			if c.Floor.Cells[x.Place] == api.CellAisle {
				aisles++
			}
		}
		for tenant, w := range m.before.Crews {
			l, e := traffic.Plan(c, m.before, tenant)
			if e != api.OK || len(l) == 0 || w.Robots[w.Mover].Stall > 0 || w.Robots[w.Mover].Due {
				continue
			}
			planned++
			if r := m.after.f.Crews[tenant].Robots[w.Mover]; r.Place != l[0] {
				t.Errorf("the Mover of tenant %d is at %d at the tick %d, want %v", tenant, r.Place, m.after.f.Tick, l)
			}
		}
	}
	eachMoment(check)
	for _, s := range goodSamples() {
		a := action{kind: step}
		check(s.c, moment{s.f, a, a.run(s.c, s.f)})
	}
	if moves < 2000 || aisles < 700 || planned < 2000 {
		t.Errorf("%d moves, %d of them to aisles, and %d along a plan", moves, aisles, planned)
	}
}

// P9.7: no claim is ever refused: the claims that a tick adds are free, and what all actions return is valid.
func TestClaimsAreFree(t *testing.T) {
	t.Parallel()
	added, shared := 0, 0
	check := func(c api.Config, m moment) {
		if m.after.e != api.OK {
			return
		}
		f := m.after.f
		wantErrno(t, "Check", traffic.Check(c, f), api.OK)
		wantErrno(t, "CheckTable", traffic.CheckTable(f.Claims), api.OK)
		if m.a.kind != step {
			wantList(t, "the table after a change", f.Claims, m.after.e, m.before.Claims, api.OK)
			return
		}
		owners := map[int]bool{}
		for _, x := range f.Claims {
			owners[x.Tenant] = true
		}
		if len(owners) > 1 {
			shared++
		}
		// All that is new can be reserved, claim by claim, in the table of before.
		table, e := traffic.Prune(m.before.Claims, f.Tick+1)
		wantErrno(t, "Prune", e, api.OK)
		for tenant, w := range f.Crews {
			if w.Mover >= 0 && w.Robots[w.Mover].Stall > 0 {
				table, e = traffic.Release(table, tenant, w.Mover)
				wantErrno(t, "Release", e, api.OK)
			}
		}
		for _, x := range f.Claims {
			if slices.Contains(table, x) {
				continue
			}
			added++
			if table, e = traffic.Reserve(table, x); e != api.OK {
				t.Fatalf("Reserve of %v: error %d", x, e)
			}
		}
	}
	eachMoment(check)
	if added < 2000 || shared < 300 {
		t.Errorf("%d claims were added, %d tables have claims of several tenants", added, shared)
	}
}

// P9.7: each crew does what crew.Step does.
func TestCrewsStepAlone(t *testing.T) {
	t.Parallel()
	finished := 0
	check := func(c api.Config, m moment) {
		if m.a.kind != step || m.after.e != api.OK {
			return
		}
		var done []api.Finish
		for tenant, w := range m.before.Crews {
			if !specIsPresent(c, tenant) {
				continue
			}
			after, ids, e := crew.Step(c, tenant, w, m.before.Tick)
			if got := m.after.f.Crews[tenant]; e != api.OK || !equalCrews(got, after) {
				t.Errorf("the crew of tenant %d: %v, want %v", tenant, got, after)
			}
			for _, id := range ids {
				done = append(done, api.Finish{Tenant: tenant, Order: id})
			}
		}
		wantList(t, "the orders that are done", m.after.done, m.after.e, done, api.OK)
		finished += len(done)
	}
	eachMoment(check)
	for _, s := range goodSamples() {
		a := action{kind: step}
		check(s.c, moment{s.f, a, a.run(s.c, s.f)})
	}
	if finished < 120 {
		t.Errorf("%d orders were done", finished)
	}
}

// compareAlone does what concerns a tenant in a history to the fleet of its config alone, compares the results, and returns how many these were.
func compareAlone(t *testing.T, x longHistory, tenant int) int {
	t.Helper()
	compared := 0
	only, e := config.Only(x.c, tenant)
	wantErrno(t, "Only", e, api.OK)
	f := newFleet(t, only)
	for _, m := range x.moments {
		if m.a.kind != step && m.a.t != tenant {
			continue
		}
		r := m.a.run(only, f)
		if r.e != m.after.e || r.id != m.after.id {
			t.Fatalf("%v of tenant %d alone: %v, want %v", m.a, tenant, r, m.after)
		}
		if r.e != api.OK {
			continue
		}
		compared++
		f = r.f
		if !equalCrews(f.Crews[tenant], m.after.f.Crews[tenant]) || f.Tick != m.after.f.Tick {
			t.Fatalf("the crew of tenant %d alone: %v, want %v", tenant, f, m.after.f)
		}
		own := specWithout(m.after.f.Claims, func(x api.Claim) bool { return x.Tenant != tenant })
		wantList(t, "the table of a tenant alone", f.Claims, r.e, own, api.OK)
		done := slices.DeleteFunc(slices.Clone(m.after.done), func(x api.Finish) bool { return x.Tenant != tenant })
		wantList(t, "the orders of a tenant alone", r.done, r.e, done, api.OK)
	}
	return compared
}

// P9.7, N5: the tenants do not matter for each other: the fleet of a tenant's config alone does the same with its crew.
func TestTenantsAlone(t *testing.T) {
	t.Parallel()
	compared := 0
	for _, x := range longHistories() {
		tenants, e := config.Tenants(x.c)
		wantErrno(t, "Tenants", e, api.OK)
		for _, tenant := range tenants {
			compared += compareAlone(t, x, tenant)
		}
	}
	if compared < 5000 {
		t.Errorf("%d results were compared", compared)
	}
}

// P9.7: an action of one tenant, of whatever kind, changes nothing of another one, now and later.
func TestTenantsDoNotMatter(t *testing.T) {
	for i, s := range goodSamples() {
		if i%3 > 0 {
			continue
		}
		draw := drawer(i)
		quiet, noisy := s.f, s.f
		own := draw(len(s.f.Crews))
		for range 20 {
			for range 2 {
				a := drawnAction(draw, noisy)
				if r := a.run(s.c, noisy); a.kind != step && a.t != own && r.e == api.OK {
					noisy = r.f
				}
			}
			first, second := action{kind: step}.run(s.c, quiet), action{kind: step}.run(s.c, noisy)
			if first.e != second.e {
				t.Fatalf("Step: %v, want %v", second, first)
			}
			if first.e != api.OK {
				break
			}
			quiet, noisy = first.f, second.f
			if !equalCrews(quiet.Crews[own], noisy.Crews[own]) {
				t.Fatalf("the crew of tenant %d: %v, want %v", own, noisy.Crews[own], quiet.Crews[own])
			}
		}
	}
}

// N4, P9.7: in a fleet each order is done within the bound of its tenant, if no robot is stalled.
func TestOrdersAreDone(t *testing.T) {
	for _, c := range soundConfigs() {
		f := newFleet(t, c)
		bounds := map[int]uint64{}
		longest := uint64(0)
		for tenant := range f.Crews {
			if !specIsPresent(c, tenant) {
				continue
			}
			bound, e := route.Bound(c, tenant)
			wantErrno(t, "Bound", e, api.OK)
			bounds[tenant] = uint64(bound)
			longest = max(longest, uint64(bound))
			f = after(t, c, f, action{kind: submit, t: tenant}, action{kind: submit, t: tenant})
		}
		for left := 2 * len(bounds); left > 0; {
			r := action{kind: step}.run(c, f)
			if r.e != api.OK || r.f.Tick-c.Start > longest {
				t.Fatalf("%d orders are not done at the tick %d: error %d", left, f.Tick, r.e)
			}
			for _, x := range r.done {
				left--
				if o := r.f.Crews[x.Tenant].Book.Orders[x.Order-1]; o.State != api.OrderDone || o.Done != r.f.Tick || o.Done-o.At > bounds[x.Tenant] {
					t.Errorf("%v is named as done at the tick %d", o, r.f.Tick)
				}
			}
			f = r.f
		}
	}
}

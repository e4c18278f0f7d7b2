package traffic_test

import (
	"slices"
	"testing"

	"dunnage/api"
	"dunnage/traffic"
)

// claimsOf returns the claims of a robot at ticks that follow one another.
func claimsOf(tenant, robot int, first uint64, places ...int) []api.Claim {
	var l []api.Claim
	for i, p := range places {
		l = append(l, api.Claim{Tick: first + uint64(i), Place: p, Tenant: tenant, Robot: robot})
	}
	return l
}

// busyTick is the tick of busyFleet: tenant 1 may be on aisles in this one and the next five, and tenant 0 not before 26.
const busyTick = 15

// busyClaims returns the claims of each crew of busyFleet.
func busyClaims() [3][]api.Claim {
	return [3][]api.Claim{
		claimsOf(0, 0, 16, 2, 2, 2, 2, 2, 2, 2, 2, 2, 2, 3, 4, 5, 6, 7),
		claimsOf(1, 0, 16, 21, 29),
		claimsOf(2, 0, 16, 49, 48),
	}
}

// busyFleet returns a valid fleet of crowdConfig: all crews have Movers on their ways, and all claims; another robot of tenant 1 is loading, and one is called.
func busyFleet() api.Fleet {
	orders := []api.Order{
		{Id: 1, Drop: 1, State: api.OrderCarrying},
		{Id: 2, Pick: 1, State: api.OrderAssigned},
		{Id: 3, State: api.OrderAssigned},
		{Id: 4, Pick: 2, State: api.OrderQueued},
	}
	one := api.Crew{
		Robots: []api.Robot{{Place: 2, State: api.RobotToPick, Order: 1}},
		Book:   api.Book{Orders: []api.Order{{Id: 1, State: api.OrderAssigned}}},
	}
	two := api.Crew{
		Robots: []api.Robot{
			{Place: 20, State: api.RobotToDrop, Order: 1},
			{Place: 38, State: api.RobotLoading, Order: 2, Left: 1},
			{Place: 33, State: api.RobotCalled, Order: 3},
		},
		Book: api.Book{Orders: orders, Queue: []int{4}, Count: api.Count{Window: 3, Many: 2}},
	}
	three := api.Crew{
		Robots: []api.Robot{{Place: 57, State: api.RobotToHome}},
		Book:   api.Book{Orders: []api.Order{{Id: 1, State: api.OrderDone, Done: 14}}},
	}
	return api.Fleet{Crews: []api.Crew{one, two, three}, Claims: busyTable(0, 1, 2), Tick: busyTick}
}

// busyTable returns the claims of some crews of busyFleet as a table.
func busyTable(tenants ...int) []api.Claim {
	var l []api.Claim
	for _, t := range tenants {
		l = append(l, busyClaims()[t]...)
	}
	return specSorted(l)
}

// idleFleet returns the fleet whose robots are idle at their homes, with nothing else, at the tick Start.
func idleFleet(c api.Config) api.Fleet {
	f := api.Fleet{Tick: c.Start}
	for _, m := range c.Teams {
		w := api.Crew{Mover: -1}
		for _, p := range m.Homes {
			w.Robots = append(w.Robots, api.Robot{Place: p})
		}
		f.Crews = append(f.Crews, w)
	}
	return f
}

// gapFleet returns a valid fleet of gapConfig, in which the tenant 1 is absent.
func gapFleet() api.Fleet {
	f := idleFleet(gapConfig())
	f.Tick = 3
	return f
}

// variant is a fleet with something changed.
type variant struct {
	what string
	c    api.Config
	f    api.Fleet
}

// goodVariants returns valid fleets.
func goodVariants() []variant {
	var all []variant
	add := func(what string, change func(f *api.Fleet)) {
		all = append(all, variant{what, crowdConfig(), changed(busyFleet(), change)})
	}
	add("all claims", func(f *api.Fleet) {})
	for _, some := range [][]int{{}, {0}, {1}, {2}, {0, 1}, {0, 2}, {1, 2}} {
		add("the claims of some crews", func(f *api.Fleet) { f.Claims = busyTable(some...) })
	}
	add("an empty table that is not nil", func(f *api.Fleet) { f.Claims = []api.Claim{} })
	add("a Mover that is due", func(f *api.Fleet) { f.Crews[1].Robots[0].Due = true })
	add("a Mover that is held, with its claims", func(f *api.Fleet) {
		f.Crews[1].Robots[0].Place, f.Crews[1].Robots[0].Stall = 30, 13
		f.Claims = specSorted(append(busyTable(0, 2), claimsOf(1, 0, 16, 29)...))
	})
	add("a Mover that is held, without claims", func(f *api.Fleet) {
		f.Crews[1].Robots[0].Place, f.Crews[1].Robots[0].Stall = 30, 1
		f.Claims = busyTable(0, 2)
	})
	add("a Mover at its goal", func(f *api.Fleet) {
		f.Crews[1].Robots[0].Place = 29
		f.Claims = busyTable(0, 2)
	})
	add("a crew without a Mover", func(f *api.Fleet) {
		f.Crews[2].Robots[0] = api.Robot{Place: 58, State: api.RobotEmpty}
		f.Crews[2].Mover, f.Claims = -1, busyTable(0, 1)
	})
	add("a period before", func(f *api.Fleet) {
		f.Tick -= 13
		for i := range f.Claims {
			f.Claims[i].Tick -= 13
		}
	})
	// MaxTick is 4 more than a multiple of the period, the busy tick 2 more.
	add("the last tick", func(f *api.Fleet) {
		f.Tick = api.MaxTick
		f.Claims = specSorted(slices.Concat(
			claimsOf(0, 0, api.MaxTick+1, 2, 2, 2, 2, 2, 2, 2, 2, 3, 4, 5, 6, 7),
			claimsOf(1, 0, api.MaxTick+1, 21, 29),
			claimsOf(2, 0, api.MaxTick+1, 49, 48)))
	})
	all = append(all, variant{"an absent tenant", gapConfig(), gapFleet()})
	return append(all, variant{"an absent tenant's lists that are not nil", gapConfig(), changed(gapFleet(), func(f *api.Fleet) {
		f.Crews[1] = api.Crew{Robots: []api.Robot{}, Book: api.Book{Orders: []api.Order{}, Queue: []int{}}, Mover: -1}
		f.Claims = []api.Claim{}
	})})
}

// badVariants returns fleets that are not valid, each for one reason.
func badVariants() []variant { return slices.Concat(badCrews(), badClaims()) }

// badCrews returns fleets that are not valid for their crews or their ticks.
func badCrews() []variant {
	var all []variant
	add := func(what string, change func(f *api.Fleet)) {
		all = append(all, variant{what, crowdConfig(), changed(busyFleet(), change)})
	}
	gap := func(what string, change func(f *api.Fleet)) {
		all = append(all, variant{what, gapConfig(), changed(gapFleet(), change)})
	}
	add("no crews", func(f *api.Fleet) { f.Crews, f.Claims = nil, nil })
	add("a crew too few", func(f *api.Fleet) { f.Crews, f.Claims = f.Crews[:2], busyTable(0, 1) })
	add("a crew too many", func(f *api.Fleet) { f.Crews = append(f.Crews, api.Crew{Mover: -1}) })
	add("crews in another order", func(f *api.Fleet) { f.Crews[0], f.Crews[2], f.Claims = f.Crews[2], f.Crews[0], nil })
	for t := range 3 {
		add("the crew of an absent tenant", func(f *api.Fleet) { f.Crews[t], f.Claims = api.Crew{Mover: -1}, nil })
		add("a robot too many", func(f *api.Fleet) { f.Crews[t].Robots = append(f.Crews[t].Robots, api.Robot{Place: 8}) })
		add("a robot that is nowhere", func(f *api.Fleet) { f.Crews[t].Robots[0].Place = 64 })
		add("a queue that is not right", func(f *api.Fleet) { f.Crews[t].Book.Queue = []int{1} })
		add("another Mover", func(f *api.Fleet) { f.Crews[t].Mover = 1 })
		add("no Mover", func(f *api.Fleet) { f.Crews[t].Mover, f.Claims = -1, nil })
	}
	for _, tick := range append([]uint64{api.MaxTick + 1, api.MaxTick + 11, api.MaxLook}, lateTicks...) {
		add("a tick that is too late", func(f *api.Fleet) { f.Tick, f.Claims = tick, nil })
		gap("a tick that is too late", func(f *api.Fleet) { f.Tick = tick })
	}
	add("a tick at which a Mover must not be on an aisle", func(f *api.Fleet) { f.Tick, f.Claims = 21, nil })
	gap("an absent tenant with a robot", func(f *api.Fleet) { f.Crews[1].Robots = []api.Robot{{}} })
	gap("an absent tenant with an order", func(f *api.Fleet) {
		f.Crews[1].Book.Orders = []api.Order{{Id: 1, State: api.OrderCancelled}}
	})
	gap("an absent tenant with a queue", func(f *api.Fleet) { f.Crews[1].Book.Queue = []int{1} })
	gap("an absent tenant with a window", func(f *api.Fleet) { f.Crews[1].Book.Count.Window = 1 })
	gap("an absent tenant with a count", func(f *api.Fleet) { f.Crews[1].Book.Count.Many = 1 })
	for _, n := range append([]int{-2, 0, 1}, hugeNumbers...) {
		gap("an absent tenant with a Mover", func(f *api.Fleet) { f.Crews[1].Mover = n })
	}
	gap("a crew too few", func(f *api.Fleet) { f.Crews = slices.Delete(f.Crews, 1, 2) })
	return all
}

// badClaims returns fleets that are not valid for their claims.
func badClaims() []variant {
	var all []variant
	add := func(what string, change func(f *api.Fleet)) {
		all = append(all, variant{what, crowdConfig(), changed(busyFleet(), change)})
	}
	claims := func(what string, l []api.Claim) { add(what, func(f *api.Fleet) { f.Claims = l }) }
	for i, x := range busyTable(0, 1, 2) {
		add("a claim too few", func(f *api.Fleet) { f.Claims = slices.Delete(f.Claims, i, i+1) })
		if i > 0 {
			add("claims in another order", func(f *api.Fleet) { f.Claims[i-1], f.Claims[i] = x, f.Claims[i-1] })
		}
		add("a claim of another place", func(f *api.Fleet) { f.Claims[i].Place++ })
		add("a claim of another robot", func(f *api.Fleet) { f.Claims[i].Robot++ })
		add("a claim of another tenant", func(f *api.Fleet) { f.Claims[i].Tenant = (x.Tenant + 1) % 3 })
		add("a claim at another tick", func(f *api.Fleet) { f.Claims[i].Tick += 100; f.Claims = specSorted(f.Claims) })
	}
	for t := range 3 {
		claims("one claim only", busyClaims()[t][:1])
		claims("all claims but the first", busyClaims()[t][1:])
		claims("the claims of a tick later", claimsOf(t, 0, busyTick+2, busyClaims()[t][0].Place, busyClaims()[t][1].Place))
		claims("the claims of a robot that is no Mover", claimsOf(t, 1, busyTick+1, 21, 29))
		more := busyClaims()[t]
		last := more[len(more)-1]
		last.Tick++
		claims("the claim of the goal one tick more", append(more, last))
		first := more[0]
		first.Tick, first.Place = busyTick, busyFleet().Crews[t].Robots[0].Place
		claims("a claim of the first place", append([]api.Claim{first}, more...))
		claims("the claims of a crew twice", specSorted(slices.Concat(more, more)))
	}
	claims("another route", specSorted(append(busyTable(0, 2), claimsOf(1, 0, 16, 28, 29)...)))
	claims("too many claims", tableWith(4097))
	claims("as many claims as there may be", tableWith(4096))
	add("the claims of a crew without a Mover", func(f *api.Fleet) {
		f.Crews[2].Robots[0], f.Crews[2].Mover = api.Robot{Place: 58, State: api.RobotEmpty}, -1
	})
	add("claims of a Mover at its goal", func(f *api.Fleet) {
		f.Crews[1].Robots[0].Place, f.Claims = 29, claimsOf(1, 0, 16, 29)
	})
	all = append(all, variant{"a claim of an absent tenant", gapConfig(), changed(gapFleet(), func(f *api.Fleet) {
		f.Claims = claimsOf(1, 0, 4, 0)
	})})
	return all
}

// sample is a fleet of a config, valid or not.
type sample struct {
	c api.Config
	f api.Fleet
}

// goodSamples returns valid fleets: some that come about, and some that are mixed of those.
func goodSamples() []sample {
	var all []sample
	for i, c := range append(soundConfigs(), stuckConfig()) {
		var fleets []api.Fleet
		history(c, idleFleet(c), i, 130, func(m moment) { fleets = append(fleets, m.before) })
		draw := drawer(i)
		for n, f := range fleets {
			if n%9 == 0 {
				all = append(all, sample{c, f})
			}
			if n%9 == 4 {
				all = append(all, sample{c, mixed(draw, c, fleets, f)})
			}
		}
	}
	return all
}

// mixed returns a valid fleet with crews of other fleets, which are as far in the period, with the claims of some of them, and with some robots due or held.
func mixed(draw func(limit int) int, c api.Config, fleets []api.Fleet, f api.Fleet) api.Fleet {
	f = copied(f)
	f.Claims = nil
	period := uint64(len(c.Slices))
	for t := range f.Crews {
		other := fleets[draw(len(fleets))]
		if other.Tick%period == f.Tick%period {
			f.Crews[t] = copied(other).Crews[t]
		}
		w := f.Crews[t]
		for n := range w.Robots {
			r := &w.Robots[n]
			if draw(3) == 0 {
				r.Due, r.Stall = true, 0
			} else if c.Floor.Cells[r.Place] != api.CellAisle && draw(3) == 0 {
				r.Due, r.Stall = false, draw(len(c.Slices)+1)
			}
		}
		if w.Mover >= 0 && draw(2) == 0 {
			f.Claims = append(f.Claims, specClaims(c, t, w, f.Tick)...)
		}
	}
	f.Claims = specSorted(f.Claims)
	return f
}

// The fleets of these tests are what they have to be, and have held Movers with claims, and others without.
func TestFleets(t *testing.T) {
	for _, v := range goodVariants() {
		wantErrno(t, "the definition of "+v.what, specCheck(v.c, v.f), api.OK)
	}
	for _, v := range badVariants() {
		wantErrno(t, "the definition of "+v.what, specCheck(v.c, v.f), api.ErrBad)
	}
	held, free, late, all := 0, 0, 0, goodSamples()
	for _, s := range all {
		wantErrno(t, "the definition of a sample", specCheck(s.c, s.f), api.OK)
		for tenant, w := range s.f.Crews {
			if w.Mover < 0 {
				continue
			}
			has := slices.ContainsFunc(s.f.Claims, func(x api.Claim) bool { return x.Tenant == tenant })
			switch r := w.Robots[w.Mover]; {
			case r.Stall > 0 && has:
				held++
			case r.Due && has:
				late++
			case !has:
				free++
			}
		}
	}
	if held < 5 || late < 20 || free < 20 {
		t.Errorf("of %d samples, %d Movers with claims are held, %d due, and %d have no claims", len(all), held, late, free)
	}
}

// P9.3: Check, of fleets that are valid, and of fleets that are not for one reason each.
func TestCheck(t *testing.T) {
	for _, v := range goodVariants() {
		wantErrno(t, "Check of "+v.what, traffic.Check(v.c, v.f), api.OK)
	}
	for _, v := range badVariants() {
		wantErrno(t, "Check of "+v.what, traffic.Check(v.c, v.f), api.ErrBad)
	}
	for _, bad := range badConfigs() {
		for _, f := range []api.Fleet{{}, busyFleet(), {Tick: api.MaxTick + 1}} {
			wantErrno(t, "Check with "+bad.what, traffic.Check(bad.c, f), bad.e)
		}
	}
	// A config need not be sound, and a fleet may be at a tick before Start.
	wantErrno(t, "Check with a config that is not sound", traffic.Check(stuckConfig(), idleFleet(stuckConfig())), api.OK)
	early := changed(idleFleet(crowdConfig()), func(f *api.Fleet) { f.Tick = 1 })
	wantErrno(t, "Check at a tick before Start", traffic.Check(crowdConfig(), early), api.OK)
	wantErrno(t, "Check with another config", traffic.Check(exampleConfig(), busyFleet()), api.ErrBad)
}

// P9.3: Check of valid fleets with something changed.
func TestCheckOfChangedFleets(t *testing.T) {
	good, bad := 0, 0
	for i, s := range goodSamples() {
		draw := drawer(i)
		for range 8 {
			f := changed(s.f, func(f *api.Fleet) { disturb(draw, f) })
			wanted := specCheck(s.c, f)
			if e := traffic.Check(s.c, f); e != wanted {
				t.Errorf("Check of %v with %v: error %d, want %d", f, s.c, e, wanted)
			}
			if wanted == api.OK {
				good++
			} else {
				bad++
			}
		}
	}
	if good < 500 || bad < 1000 {
		t.Errorf("%d fleets are valid, %d are not", good, bad)
	}
}

// disturb changes something of a fleet by a little.
func disturb(draw func(limit int) int, f *api.Fleet) {
	more := []int{-1, 1}[draw(2)]
	if len(f.Claims) > 0 && draw(2) == 0 {
		i := draw(len(f.Claims))
		x := &f.Claims[i]
		switch draw(6) {
		case 0:
			x.Tick++
		case 1:
			x.Place += more
		case 2:
			x.Robot += more
		case 3:
			f.Claims = slices.Delete(f.Claims, i, i+1)
		case 4:
			tenant := x.Tenant
			f.Claims = slices.DeleteFunc(f.Claims, func(y api.Claim) bool { return y.Tenant == tenant })
		default:
			f.Claims = append(f.Claims, api.Claim{Tick: f.Claims[len(f.Claims)-1].Tick + 1, Place: x.Place, Tenant: x.Tenant, Robot: x.Robot})
		}
		return
	}
	w := &f.Crews[draw(len(f.Crews))]
	switch draw(6) {
	case 0:
		f.Tick++
	case 1:
		w.Mover += more
	case 2:
		w.Book.Count.Many += more
	default:
		if len(w.Robots) > 0 {
			r := &w.Robots[draw(len(w.Robots))]
			r.Due, r.Stall = draw(2) == 0, r.Stall*draw(3)
			if draw(4) == 0 {
				r.Place += more
			}
		}
	}
}

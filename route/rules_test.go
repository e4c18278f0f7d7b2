package route_test

import (
	"slices"
	"testing"

	"dunnage/api"
	"dunnage/route"
)

// arguments is what the functions take.
type arguments struct {
	c    api.Config
	t    int
	g    api.Leg
	p    int
	tick uint64
	n    int
	l    []int
}

// goodArguments returns arguments with which no function returns an error.
func goodArguments() arguments {
	return arguments{exampleConfig(), 0, api.Leg{From: 5, To: 4}, 6, 4, 3, []int{5, 6, 1, 2, 3, 4}}
}

// Some arguments of a function.
const (
	takesTenant = 1 << iota
	takesLeg
	takesPlace
	takesTick
	takesMany
	takesList
	needsSound
	needsRoute
)

// outcome is what a function returned: whether all results but the error are zero values, and which arguments it has.
type outcome struct {
	name   string
	takes  int
	isZero bool
	e      api.Errno
}

// outcomes calls all functions.
func outcomes(a arguments) []outcome {
	var all []outcome
	add := func(name string, takes int, isZero bool, e api.Errno) {
		all = append(all, outcome{name, takes, isZero, e})
	}
	is, e := route.Allowed(a.c, a.t, a.p, a.tick)
	add("Allowed", takesTenant|takesPlace|takesTick, !is, e)
	l, e := route.Cells(a.c, a.t, a.g)
	add("Cells", takesTenant|takesLeg, len(l) == 0, e)
	is, e = route.Free(a.c, a.t, a.g, a.p, a.tick)
	add("Free", takesTenant|takesLeg|takesPlace|takesTick, !is, e)
	l, e = route.Reach(a.c, a.t, a.g, a.tick, a.n)
	add("Reach", takesTenant|takesLeg|takesTick|takesMany, len(l) == 0, e)
	n, e := route.Arrival(a.c, a.t, a.g, a.tick)
	add("Arrival", takesTenant|takesLeg|takesTick|needsRoute, n == 0, e)
	n, e = route.Next(a.c, a.t, a.g, a.tick)
	add("Next", takesTenant|takesLeg|takesTick|needsRoute, n == 0, e)
	l, e = route.Route(a.c, a.t, a.g, a.tick)
	add("Route", takesTenant|takesLeg|takesTick|needsRoute, len(l) == 0, e)
	is, e = route.Walk(a.c, a.t, a.g, a.tick, a.l)
	add("Walk", takesTenant|takesLeg|takesTick|takesList, !is, e)
	l, e = route.Timetable(a.c, a.t, a.g)
	add("Timetable", takesTenant|takesLeg, len(l) == 0, e)
	legs, e := route.Legs(a.c, a.t)
	add("Legs", takesTenant, len(legs) == 0, e)
	add("Sound", needsSound, true, route.Sound(a.c))
	n, e = route.Longest(a.c, a.t)
	add("Longest", takesTenant|needsSound, n == 0, e)
	n, e = route.Bound(a.c, a.t)
	add("Bound", takesTenant|needsSound, n == 0, e)
	return all
}

// wantOutcomes checks that the functions that take some arguments, and no others, return an error and zero values.
func wantOutcomes(t *testing.T, what string, a arguments, takes int, want api.Errno) {
	t.Helper()
	for _, x := range outcomes(a) {
		if x.takes&takes == 0 {
			wantErrno(t, x.name+" of "+what, x.e, api.OK)
		} else if x.e != want || !x.isZero {
			t.Errorf("%s of %s: error %d, zero values %t, want %d", x.name, what, x.e, x.isZero, want)
		}
	}
}

// The arguments of which the following tests change one are good.
func TestGoodArguments(t *testing.T) {
	for _, x := range outcomes(goodArguments()) {
		if x.e != api.OK || x.isZero && x.name != "Sound" {
			t.Errorf("%s: error %d, zero values %t", x.name, x.e, x.isZero)
		}
	}
}

// P4.1 to P4.6, R1, R2: config.Check's error comes first, whatever the other arguments are.
func TestBadConfigs(t *testing.T) {
	for _, bad := range badConfigs() {
		a := goodArguments()
		a.c = bad.c
		worse := arguments{bad.c, 7, api.Leg{From: -1, To: 99}, -5, api.MaxLook + 1, -1, repeated(-1, 2000)}
		for _, a := range []arguments{a, worse} {
			for _, x := range outcomes(a) {
				if x.e != bad.e || !x.isZero {
					t.Errorf("%s of %s: error %d, zero values %t, want %d", x.name, bad.what, x.e, x.isZero, bad.e)
				}
			}
		}
	}
}

// P4.1 to P4.6, R5: ErrArg unless the tenant is present.
func TestBadTenants(t *testing.T) {
	for _, tenant := range append([]int{-2, -1, 2, 3, 4, 254, 255}, hugeNumbers...) {
		a := goodArguments()
		a.t = tenant
		wantOutcomes(t, "no tenant", a, takesTenant, api.ErrArg)
	}
	a := goodArguments()
	a.c, a.t, a.g = gapConfig(), 1, api.Leg{From: 2, To: 2}
	wantOutcomes(t, "an absent tenant", a, takesTenant, api.ErrArg)
}

// P4.1 to P4.5, R5: ErrArg if a tick is later than MaxLook.
func TestBadTicks(t *testing.T) {
	for _, tick := range lateTicks {
		a := goodArguments()
		a.tick = tick
		wantOutcomes(t, "too late a tick", a, takesTick, api.ErrArg)
	}
	for _, tick := range []uint64{api.MaxTick, api.MaxTick + 1, api.MaxLook - 1, api.MaxLook} {
		a := goodArguments()
		a.tick = tick
		wantOutcomes(t, "a late tick", a, 0, api.OK)
	}
}

// P4.1, R5: ErrArg unless a place is one.
func TestBadPlaces(t *testing.T) {
	for _, p := range append([]int{-2, -1, 20, 21, 63, 64}, hugeNumbers...) {
		a := goodArguments()
		a.p = p
		wantOutcomes(t, "no place", a, takesPlace, api.ErrArg)
	}
	a := goodArguments()
	a.c.Floor = cellsOf("00.00", "00.00", "11.11", "11.11", "#####")
	for p := range 25 {
		a.p = p
		wantOutcomes(t, "a place", a, 0, api.OK)
	}
}

// P4.1 to P4.5, R5: ErrArg unless a leg is one of the tenant.
func TestBadLegs(t *testing.T) {
	eachTenant(func(c api.Config, tenant int) {
		cells := len(c.Floor.Cells)
		for _, from := range []int{-1, 0, 1, 2, 5, 7, 9, 12, 16, 19, 20, 24, cells - 1, cells} {
			for _, to := range []int{-1, 0, 2, 3, 7, 10, 17, 24, cells - 1, cells} {
				g := api.Leg{From: from, To: to}
				want := api.ErrArg
				if from >= 0 && from < cells && to >= 0 && to < cells && specIsLeg(c, tenant, g) {
					want = api.OK
				}
				l, e := route.Cells(c, tenant, g)
				if e != want || (len(l) == 0) != (want != api.OK) {
					t.Errorf("Cells from %d to %d: %v, %d, want %d", from, to, l, e, want)
				}
			}
		}
	})
	for _, g := range []api.Leg{{From: 5, To: 7}, {From: 10, To: 4}, {From: 5, To: 14}, {From: 7, To: 2}, {From: -1, To: 4}, {From: 5, To: -1}, {From: 20, To: 4}, {From: 5, To: 20}} {
		a := goodArguments()
		a.g = g
		wantOutcomes(t, "another leg", a, takesLeg, api.ErrArg)
	}
	for _, huge := range hugeNumbers {
		a := goodArguments()
		a.g.From = huge
		wantOutcomes(t, "a leg from no place", a, takesLeg, api.ErrArg)
		a = goodArguments()
		a.g.To = huge
		wantOutcomes(t, "a leg to no place", a, takesLeg, api.ErrArg)
	}
	a := goodArguments()
	a.c.Floor = cellsOf("00.00", "00.00", "11.11", "11.11", "#####")
	for _, g := range []api.Leg{{From: 20, To: 4}, {From: 5, To: 22}} {
		a.g = g
		wantOutcomes(t, "a leg from or to a wall", a, takesLeg, api.ErrArg)
	}
}

// R1: ErrArg comes before ErrMany and before ErrRoute.
func TestOrderOfErrors(t *testing.T) {
	long := goodArguments()
	long.l = repeated(5, 1026)
	wantOutcomes(t, "too long a list", long, takesList, api.ErrMany)
	for _, change := range []func(a *arguments){
		func(a *arguments) { a.t = 2 },
		func(a *arguments) { a.g.To = 7 },
		func(a *arguments) { a.tick = api.MaxLook + 1 },
	} {
		a := long
		change(&a)
		is, e := route.Walk(a.c, a.t, a.g, a.tick, a.l)
		wantBool(t, "Walk", is, e, false, api.ErrArg)
	}
	unsound := goodArguments()
	unsound.c = withSlices(exampleConfig(), 0)
	wantOutcomes(t, "a config that is not sound", unsound, needsSound|needsRoute, api.ErrRoute)
	for _, tenant := range []int{-1, 2} {
		n, e := route.Longest(unsound.c, tenant)
		wantInt(t, "Longest of no tenant", n, e, 0, api.ErrArg)
		n, e = route.Bound(unsound.c, tenant)
		wantInt(t, "Bound of no tenant", n, e, 0, api.ErrArg)
	}
	for _, change := range []func(a *arguments){func(a *arguments) { a.g.From = 10 }, func(a *arguments) { a.tick = api.MaxLook + 1 }} {
		a := unsound
		change(&a)
		for _, x := range outcomes(a) {
			if x.takes&needsRoute != 0 && (x.e != api.ErrArg || !x.isZero) {
				t.Errorf("%s: error %d, zero values %t, want ErrArg", x.name, x.e, x.isZero)
			}
		}
	}
}

// roomy returns a list with the same elements, and the longer array behind it.
func roomy[T any](l []T, more ...T) (part, behind []T) {
	behind = append(slices.Clone(l), more...)
	return behind[:len(l)], behind
}

// listsOf returns the lists of spots of a team.
func listsOf(m *api.Team) []*[]int { return []*[]int{&m.Homes, &m.Picks, &m.Drops} }

// roomyConfig returns a config whose slices all have more capacity than length, and a function that returns what is behind them.
func roomyConfig(c api.Config) (roomyC api.Config, behind func() (numbers []uint8, places []int, loads []int)) {
	cells, allCells := roomy(c.Floor.Cells, 1, 255, 2, 77)
	entries, allEntries := roomy(c.Slices, 1, 2, 0, 9)
	teams, allTeams := roomy(c.Teams, api.Team{Load: 5}, api.Team{Load: 6})
	var lists [][]int
	for t := range teams {
		for _, l := range listsOf(&teams[t]) {
			part, all := roomy(*l, 7, 11, 64, -1)
			*l = part
			lists = append(lists, all)
		}
	}
	c.Floor.Cells, c.Slices, c.Teams = cells, entries, teams
	return c, func() ([]uint8, []int, []int) {
		var loads []int
		for _, m := range allTeams {
			loads = append(loads, len(m.Homes), len(m.Picks), len(m.Drops), m.Load, m.Unload, m.Queue, m.Quota, m.Window)
		}
		return slices.Concat(allCells, allEntries), slices.Concat(lists...), loads
	}
}

// P1 (R3): arguments are only read, also behind their length, and what is there does not matter.
func TestArgumentsAreOnlyRead(t *testing.T) {
	eachTenant(func(c api.Config, tenant int) {
		a := goodArguments()
		a.c, a.t, a.g = c, tenant, specLegs(c.Teams[tenant])[0]
		before := outcomes(a)
		roomyC, behind := roomyConfig(c)
		numbers, places, loads := behind()
		list, all := roomy(a.l, 9, 4, 4)
		allBefore := slices.Clone(all)
		a.c, a.l = roomyC, list
		if !slices.Equal(outcomes(a), before) {
			t.Errorf("a call depends on a capacity: %v", c)
		}
		numbersAfter, placesAfter, loadsAfter := behind()
		if !slices.Equal(numbers, numbersAfter) || !slices.Equal(places, placesAfter) || !slices.Equal(loads, loadsAfter) || !slices.Equal(all, allBefore) {
			t.Errorf("a call changed its arguments: %v", c)
		}
	})
}

// spoil changes all numbers of a list, also behind its length.
func spoil(l []int) {
	for i := range l[:cap(l)] {
		l[:cap(l)][i] = -7
	}
}

// P1 (R3): results share no memory with arguments, and nothing is kept from call to call.
func TestResultsAreNewMemory(t *testing.T) {
	for _, original := range smallConfigs() {
		c, _ := roomyConfig(original)
		for range 2 {
			for tenant, m := range original.Teams {
				for _, g := range specLegs(m) {
					checkAndSpoil(t, c, tenant, g)
				}
				if len(m.Homes) == 0 {
					continue
				}
				legs, e := route.Legs(c, tenant)
				wantLegs(t, "Legs", legs, e, specLegs(m), api.OK)
				clear(legs[:cap(legs)])
			}
		}
	}
}

// checkAndSpoil checks all lists that are returned for a leg, and changes them afterwards.
func checkAndSpoil(t *testing.T, c api.Config, tenant int, g api.Leg) {
	t.Helper()
	cells, e := route.Cells(c, tenant, g)
	wantErrno(t, "Cells", e, api.OK)
	if len(cells) == 0 || slices.Contains(cells, -7) {
		t.Errorf("Cells: %v", cells)
	}
	ends, e := route.Reach(c, tenant, g, 1, 3)
	wantInts(t, "Reach", ends, e, specReach(c, tenant, g, 1, 3), api.OK)
	table, e := route.Timetable(c, tenant, g)
	wantErrno(t, "Timetable", e, api.OK)
	if len(table) != len(c.Slices) || slices.Contains(table, -7) {
		t.Errorf("Timetable: %v", table)
	}
	if specArrival(c, tenant, g, 1) >= 0 {
		l, e := route.Route(c, tenant, g, 1)
		wantInts(t, "Route", l, e, specRoute(c, tenant, g, 1), api.OK)
		spoil(l)
	}
	spoil(cells)
	spoil(ends)
	spoil(table)
}

// P1 (R4): nil and empty slices are the same.
func TestNilAndEmpty(t *testing.T) {
	a := goodArguments()
	a.c = gapConfig()
	before := outcomes(a)
	a.c = changed(a.c, func(c *api.Config) {
		c.Teams[1] = api.Team{Homes: []int{}, Picks: []int{}, Drops: []int{}}
	})
	if !slices.Equal(outcomes(a), before) {
		t.Error("a call depends on whether a slice is nil")
	}
	wantErrno(t, "Sound", route.Sound(a.c), api.OK)
	for _, l := range [][]int{nil, {}} {
		is, e := route.Walk(a.c, 0, a.g, 4, l)
		wantBool(t, "Walk of an empty list", is, e, false, api.OK)
	}
	empty := arguments{c: api.Config{Floor: api.Floor{Cells: []uint8{}}, Slices: []uint8{}, Teams: []api.Team{}}}
	for _, x := range outcomes(empty) {
		wantErrno(t, x.name, x.e, api.ErrFloor)
	}
}

// P1 (R7): no call panics or goes on for ever, whatever the arguments are.
func TestAnyArguments(t *testing.T) {
	numbers := append([]int{-1, 0, 1, 2, 5, 20, 64, 1024}, hugeNumbers...)
	ticks := append([]uint64{0, 1, api.MaxLook}, lateTicks...)
	draw := drawer(1)
	pick := func() int { return numbers[draw(len(numbers))] }
	for seed := range 3000 {
		a := arguments{exampleConfig(), pick(), api.Leg{From: pick(), To: pick()}, pick(), ticks[draw(len(ticks))], pick(), []int{pick(), pick(), pick()}}
		if seed%3 > 0 {
			a.c.Floor.W, a.c.Floor.H = pick(), pick()
			a.c.Teams[0].Homes[0], a.c.Teams[1].Queue = pick(), pick()
		}
		for _, x := range outcomes(a) {
			if x.e != api.OK && !x.isZero {
				t.Errorf("%s of %v: a result with the error %d", x.name, a, x.e)
			}
		}
	}
}

package route_test

import (
	"testing"

	"dunnage/api"
	"dunnage/route"
)

// P4.6: Legs, by the document's example, and of a tenant with several spots.
func TestLegsExample(t *testing.T) {
	l, e := route.Legs(exampleConfig(), 0)
	wantLegs(t, "Legs", l, e, []api.Leg{{From: 0, To: 5}, {From: 5, To: 4}, {From: 4, To: 0}}, api.OK)
	l, e = route.Legs(gapConfig(), 2)
	wantLegs(t, "Legs", l, e, []api.Leg{{From: 10, To: 15}, {From: 15, To: 14}, {From: 14, To: 10}}, api.OK)
	l, e = route.Legs(threeConfig(), 1)
	wantLegs(t, "Legs", l, e, []api.Leg{
		{From: 31, To: 39}, {From: 31, To: 26}, {From: 24, To: 39}, {From: 24, To: 26}, {From: 30, To: 39}, {From: 30, To: 26},
		{From: 39, To: 32}, {From: 26, To: 32},
		{From: 32, To: 31}, {From: 32, To: 24}, {From: 32, To: 30},
	}, api.OK)
}

// P4.6: Legs, of all tenants.
func TestLegs(t *testing.T) {
	eachTenant(func(c api.Config, tenant int) {
		l, e := route.Legs(c, tenant)
		wantLegs(t, "Legs", l, e, specLegs(c.Teams[tenant]), api.OK)
	})
}

// P4.6: Sound, Longest and Bound, by the document's example.
func TestSoundExample(t *testing.T) {
	c := exampleConfig()
	wantErrno(t, "Sound", route.Sound(c), api.OK)
	for tenant := range 2 {
		n, e := route.Longest(c, tenant)
		wantInt(t, "Longest", n, e, 8, api.OK)
		n, e = route.Bound(c, tenant)
		wantInt(t, "Bound", n, e, 672, api.OK)
	}
	wantErrno(t, "Sound", route.Sound(withSlices(c, 2, 2, 0)), api.ErrRoute)
}

// P4.6: Sound, with one slice table after the other.
func TestSoundOfSliceTables(t *testing.T) {
	wantErrno(t, "a slice of a tick", route.Sound(withSlices(exampleConfig(), 1, 2)), api.OK)
	wantErrno(t, "no slice of tenant 1", route.Sound(withSlices(exampleConfig(), 1, 0)), api.ErrRoute)
	wantErrno(t, "nobody's slices", route.Sound(withSlices(exampleConfig(), 0, 0, 0)), api.ErrRoute)
	corridor := func(entries ...uint8) api.Config {
		return api.Config{Floor: cellsOf("00..0", "00###"), Slices: entries, Teams: []api.Team{teamWith([]int{0}, []int{5}, []int{4})}}
	}
	wantErrno(t, "a way over two aisles, and slices of two ticks", route.Sound(corridor(1, 1, 0)), api.OK)
	wantErrno(t, "the same, and slices of one tick", route.Sound(corridor(1, 0, 1, 0)), api.ErrRoute)
	wantErrno(t, "the same, and slices of two ticks around the end of the table", route.Sound(corridor(1, 0, 0, 0, 1)), api.OK)
}

// P4.6: Sound, Longest and Bound, of all configs.
func TestSound(t *testing.T) {
	eachTenant(func(c api.Config, tenant int) {
		longest, bound, wantE := 0, 0, api.ErrRoute
		if specSound(c) {
			m := c.Teams[tenant]
			robots := len(m.Homes)
			longest = specLongest(c, tenant)
			bound = (m.Queue + robots + 1) * (4*robots + 8) * (longest + m.Load + m.Unload + 4)
			wantE = api.OK
		}
		wantErrno(t, "Sound", route.Sound(c), wantE)
		n, e := route.Longest(c, tenant)
		wantInt(t, "Longest", n, e, longest, wantE)
		n, e = route.Bound(c, tenant)
		wantInt(t, "Bound", n, e, bound, wantE)
	})
}

// P4.6: Longest and Bound of a tenant whose own legs have routes, in a config that is not sound.
func TestLongestNeedsAllTenantsSound(t *testing.T) {
	c := splitConfig()
	for tenant := range 2 {
		n, e := route.Longest(c, tenant)
		wantInt(t, "Longest", n, e, 0, api.ErrRoute)
		n, e = route.Bound(c, tenant)
		wantInt(t, "Bound", n, e, 0, api.ErrRoute)
	}
	n, e := route.Longest(projected(t, c, 0), 0)
	wantInt(t, "Longest of the tenant alone", n, e, specLongest(c, 0), api.OK)
}

// P4.6: each number of the team counts in the bound as the document says.
func TestBoundOfTeams(t *testing.T) {
	c := changed(exampleConfig(), func(c *api.Config) {
		c.Teams[0].Homes = []int{0, 3}
		c.Teams[0].Queue, c.Teams[0].Load, c.Teams[0].Unload = 5, 3, 7
		c.Teams[0].Quota, c.Teams[0].Window = 11, 60
		c.Start = api.MaxTick
	})
	longest, e := route.Longest(c, 0)
	wantInt(t, "Longest", longest, e, 10, api.OK)
	bound, e := route.Bound(c, 0)
	wantInt(t, "Bound", bound, e, 8*16*24, api.OK)
}

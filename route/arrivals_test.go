package route_test

import (
	"testing"

	"dunnage/api"
	"dunnage/route"
)

// P4.3: Arrival, by the document's examples.
func TestArrivalExample(t *testing.T) {
	c := exampleConfig()
	for _, x := range []struct {
		from, to int
		tick     uint64
		want     int
	}{
		{5, 4, 0, 8}, {5, 4, 1, 7}, {5, 4, 3, 5}, {5, 4, 4, 5}, {5, 4, 5, 5}, {5, 4, 6, 8}, {5, 4, api.MaxTick + 1, 5}, {5, 4, api.MaxLook, 8},
		{0, 5, 0, 1}, {0, 5, 5, 1}, {0, 0, 0, 0}, {7, 8, 3, 1}, {2, 4, 1, 2},
	} {
		n, e := route.Arrival(c, 0, api.Leg{From: x.from, To: x.to}, x.tick)
		wantInt(t, "Arrival", n, e, x.want, api.OK)
	}
}

// P4.3: Route and Next, by the document's examples.
func TestRouteExample(t *testing.T) {
	c, g := exampleConfig(), api.Leg{From: 5, To: 4}
	for tick, want := range map[uint64][]int{
		4: {5, 6, 1, 2, 3, 4},
		5: {5, 6, 7, 8, 3, 4},
		0: {5, 5, 5, 5, 6, 1, 2, 3, 4},
	} {
		l, e := route.Route(c, 0, g, tick)
		wantInts(t, "Route", l, e, want, api.OK)
		p, e := route.Next(c, 0, g, tick)
		wantInt(t, "Next", p, e, want[1], api.OK)
	}
}

// P4.3: a leg that begins where it ends has a route of one place, and no next place.
func TestLegsOfOnePlace(t *testing.T) {
	eachTenant(func(c api.Config, tenant int) {
		for p := range c.Floor.Cells {
			g := api.Leg{From: p, To: p}
			if !specIsLeg(c, tenant, g) {
				continue
			}
			for _, tick := range []uint64{0, 3, api.MaxLook} {
				n, e := route.Arrival(c, tenant, g, tick)
				wantInt(t, "Arrival", n, e, 0, api.OK)
				n, e = route.Next(c, tenant, g, tick)
				wantInt(t, "Next", n, e, 0, api.ErrNone)
				l, e := route.Route(c, tenant, g, tick)
				wantInts(t, "Route", l, e, []int{p}, api.OK)
			}
		}
	})
}

// P4.3: a leg without a route: to a place behind walls, behind a spot, and behind an aisle that is never the tenant's.
func TestLegsWithoutRoutes(t *testing.T) {
	walled := api.Config{Floor: cellsOf("000#0", "00.#0"), Slices: []uint8{1}, Teams: []api.Team{teamWith([]int{0}, []int{1}, []int{4})}}
	behindSpot := api.Config{Floor: cellsOf("000", "###"), Slices: []uint8{1}, Teams: []api.Team{teamWith([]int{0}, []int{1}, []int{2})}}
	for _, x := range []struct {
		what string
		c    api.Config
		g    api.Leg
	}{
		{"behind walls", walled, api.Leg{From: 1, To: 4}},
		{"behind a spot", behindSpot, api.Leg{From: 2, To: 0}},
		{"behind an aisle of another tenant", withSlices(exampleConfig(), 2, 2, 0), api.Leg{From: 5, To: 4}},
		{"behind an aisle of nobody", withSlices(exampleConfig(), 0), api.Leg{From: 5, To: 4}},
		{"from an aisle that has only aisles around it", withSlices(exampleConfig(), 2), api.Leg{From: 12, To: 4}},
	} {
		for _, tick := range ticksOf(x.c) {
			n, e := route.Arrival(x.c, 0, x.g, tick)
			wantInt(t, x.what, n, e, 0, api.ErrRoute)
			n, e = route.Next(x.c, 0, x.g, tick)
			wantInt(t, x.what, n, e, 0, api.ErrRoute)
			l, e := route.Route(x.c, 0, x.g, tick)
			wantInts(t, x.what, l, e, nil, api.ErrRoute)
		}
		table, e := route.Timetable(x.c, 0, x.g)
		wantInts(t, x.what, table, e, repeated(-1, len(x.c.Slices)), api.OK)
	}
	l, e := route.Route(behindSpot, 0, api.Leg{From: 1, To: 0}, 0)
	wantInts(t, "from a spot itself", l, e, []int{1, 0}, api.OK)
}

// P4.3, P4.5: a leg that has a route from some ticks on, and from others none.
func TestLegsWithRoutesFromSomeTicksOn(t *testing.T) {
	c := api.Config{
		Floor:  cellsOf("000#", "##..", "##.0"),
		Slices: []uint8{0, 1, 0, 0},
		Teams:  []api.Team{teamWith([]int{0}, []int{1}, []int{2})},
	}
	g := api.Leg{From: 6, To: 2}
	list, e := route.Timetable(c, 0, g)
	wantInts(t, "Timetable", list, e, []int{1, 1, 1, 1}, api.OK)
	g = api.Leg{From: 7, To: 2}
	list, e = route.Timetable(c, 0, g)
	wantInts(t, "Timetable", list, e, []int{2, -1, -1, -1}, api.OK)
	for tick := range uint64(9) {
		n, e := route.Arrival(c, 0, g, tick)
		if tick%4 == 0 {
			wantInt(t, "Arrival", n, e, 2, api.OK)
		} else {
			wantInt(t, "Arrival", n, e, 0, api.ErrRoute)
		}
	}
}

// P4.3: Arrival, Next and Route, on all legs.
func TestRoutes(t *testing.T) {
	eachTrip(func(c api.Config, tenant int, g api.Leg) {
		for i, tick := range ticksOf(c) {
			n, e := route.Arrival(c, tenant, g, tick)
			want := specArrival(c, tenant, g, tick)
			if want < 0 {
				wantInt(t, "Arrival", n, e, 0, api.ErrRoute)
				continue
			}
			wantInt(t, "Arrival", n, e, want, api.OK)
			if want > 0 {
				p, e := route.Next(c, tenant, g, tick)
				wantInt(t, "Next", p, e, specNext(c, tenant, g, tick, want), api.OK)
			}
			if i%5 == 0 {
				l, e := route.Route(c, tenant, g, tick)
				wantInts(t, "Route", l, e, specRoute(c, tenant, g, tick), api.OK)
			}
		}
	})
}

// P4.3: a leg whose arrival is several periods.
func TestLongRoute(t *testing.T) {
	c, g := snakeConfig(), api.Leg{From: 56, To: 0}
	n, e := route.Arrival(c, 0, g, 0)
	wantInt(t, "Arrival", n, e, specArrival(c, 0, g, 0), api.OK)
	if n < 16*10 {
		t.Errorf("the arrival is %d only", n)
	}
	l, e := route.Route(c, 0, g, 0)
	wantInts(t, "Route", l, e, specRoute(c, 0, g, 0), api.OK)
}

// P4.5: Timetable, by the document's example.
func TestTimetableExample(t *testing.T) {
	l, e := route.Timetable(exampleConfig(), 0, api.Leg{From: 5, To: 4})
	wantInts(t, "Timetable", l, e, []int{8, 7, 6, 5, 5, 5}, api.OK)
	l, e = route.Timetable(exampleConfig(), 1, api.Leg{From: 15, To: 15})
	wantInts(t, "Timetable", l, e, []int{0, 0, 0, 0, 0, 0}, api.OK)
}

// P4.5: Timetable, of all legs.
func TestTimetable(t *testing.T) {
	eachTrip(func(c api.Config, tenant int, g api.Leg) {
		var want []int
		for tick := range c.Slices {
			want = append(want, specArrival(c, tenant, g, uint64(tick)))
		}
		l, e := route.Timetable(c, tenant, g)
		wantInts(t, "Timetable", l, e, want, api.OK)
	})
}

package route_test

import (
	"slices"
	"testing"

	"dunnage/api"
	"dunnage/route"
)

// repeated returns a list of the same number.
func repeated(p, many int) []int { return slices.Repeat([]int{p}, many) }

// P4.2: Reach, by the document's examples.
func TestReachExample(t *testing.T) {
	c, g := exampleConfig(), api.Leg{From: 5, To: 4}
	for _, x := range []struct {
		tick uint64
		n    int
		want []int
	}{
		{0, 0, []int{5}}, {0, 1, []int{5, 6}}, {0, 2, []int{1, 5, 6}}, {5, 2, []int{1, 5, 6, 7}}, {5, 1, []int{5, 6}},
		{2, 1024, []int{1, 2, 3, 4, 5, 6, 7, 8, 9}}, {3, 1024, []int{1, 2, 3, 4, 5, 6, 7, 8, 9, 12}}, {4, 1024, []int{1, 3, 4, 5, 6, 8, 9}},
	} {
		l, e := route.Reach(c, 0, g, x.tick, x.n)
		wantInts(t, "Reach", l, e, x.want, api.OK)
	}
}

// P4.2: Reach where the first place is not free: one cannot stay there, but leave it.
func TestReachFromAPlaceThatIsNotFree(t *testing.T) {
	c, g := exampleConfig(), api.Leg{From: 7, To: 4}
	for n, want := range [][]int{{7}, {6, 8}, {1, 3, 6, 8, 9}, {1, 2, 3, 4, 6, 7, 8, 9}} {
		l, e := route.Reach(c, 0, g, 3, n)
		wantInts(t, "Reach", l, e, want, api.OK)
	}
	alone := withSlices(exampleConfig(), 2)
	for n, want := range [][]int{{12}, nil, nil} {
		l, e := route.Reach(alone, 0, api.Leg{From: 12, To: 4}, 1, n)
		wantInts(t, "Reach from where one cannot leave", l, e, want, api.OK)
	}
}

// P4.2: Reach, on all legs.
func TestReach(t *testing.T) {
	eachTrip(func(c api.Config, tenant int, g api.Leg) {
		for _, tick := range []uint64{0, 3, api.MaxTick + 1, api.MaxLook} {
			for _, n := range []int{0, 1, 2, 3, 5, 8, 13, 40} {
				l, e := route.Reach(c, tenant, g, tick, n)
				wantInts(t, "Reach", l, e, specReach(c, tenant, g, tick, n), api.OK)
			}
		}
	})
}

// P4.2: Reach with the greatest n, and with n out of its range.
func TestReachFarAndTooFar(t *testing.T) {
	for _, c := range smallConfigs() {
		for _, g := range specLegs(c.Teams[0]) {
			for n := api.MaxRoute - 2; n <= api.MaxRoute; n++ {
				l, e := route.Reach(c, 0, g, api.MaxLook, n)
				wantInts(t, "Reach", l, e, specReach(c, 0, g, api.MaxLook, n), api.OK)
			}
			for _, n := range append([]int{-2, -1, api.MaxRoute + 1, api.MaxRoute + 2}, outOfRange(hugeNumbers)...) {
				l, e := route.Reach(c, 0, g, 0, n)
				wantInts(t, "Reach with n out of its range", l, e, nil, api.ErrArg)
			}
		}
	}
}

// outOfRange returns those of some numbers that are not from 0 to MaxRoute.
func outOfRange(l []int) []int {
	return slices.DeleteFunc(slices.Clone(l), func(n int) bool { return n >= 0 && n <= api.MaxRoute })
}

// P4.4: Walk, list by list.
func TestWalkExamples(t *testing.T) {
	c, g := exampleConfig(), api.Leg{From: 5, To: 4}
	for _, x := range []struct {
		what string
		tick uint64
		l    []int
		want bool
	}{
		{"nil", 4, nil, false},
		{"an empty list", 4, []int{}, false},
		{"the route", 4, []int{5, 6, 1, 2, 3, 4}, true},
		{"the route one tick earlier", 3, []int{5, 6, 1, 2, 3, 4}, true},
		{"the route too early", 2, []int{5, 6, 1, 2, 3, 4}, false},
		{"the route too late", 5, []int{5, 6, 1, 2, 3, 4}, false},
		{"another way", 4, []int{5, 6, 7, 8, 3, 4}, true},
		{"a list that waits", 4, []int{5, 6, 6, 7, 8, 8, 8, 9, 4, 4, 4}, true},
		{"a list that goes back", 4, []int{5, 6, 5, 6, 1, 6, 1, 6, 1, 2, 3, 4}, true},
		{"a list that passes the goal", 4, []int{5, 6, 1, 2, 3, 4, 9, 4}, true},
		{"a list that ends beside the goal", 4, []int{5, 6, 1, 2, 3}, false},
		{"a list that begins beside the first place", 5, []int{6, 1, 2, 3, 4}, false},
		{"a list that leaves out a place", 4, []int{5, 6, 2, 3, 4}, false},
		{"a list that jumps over the edge", 4, []int{5, 4}, false},
		{"a list past another spot", 4, []int{5, 0, 1, 2, 3, 4}, false},
		{"a list past another tenant's cells", 4, []int{5, 10, 11, 12, 7, 8, 9, 4}, false},
		{"a list that waits on an aisle", 4, []int{5, 6, 7, 7, 8, 9, 4}, true},
		{"a list that waits too long on an aisle", 4, []int{5, 6, 7, 7, 7, 8, 9, 4}, false},
		{"a list with -1", 4, []int{5, -1, 5, 6, 1, 2, 3, 4}, false},
		{"a list with 20", 4, []int{5, 6, 20, 6, 1, 2, 3, 4}, false},
		{"a list that ends with -1", 4, []int{5, 6, 1, 2, 3, 4, -1}, false},
	} {
		is, e := route.Walk(c, 0, g, x.tick, x.l)
		wantBool(t, x.what, is, e, x.want, api.OK)
	}
	for _, huge := range append([]int{-1, 20, 64}, hugeNumbers...) {
		for i := range 6 {
			l := []int{5, 6, 1, 2, 3, 4}
			l[i] = huge
			is, e := route.Walk(c, 0, g, 4, l)
			wantBool(t, "a list with a number that is no place", is, e, false, api.OK)
		}
	}
}

// P4.4: Walk on legs that begin where they end, and where the first place is not free.
func TestWalkOfOnePlace(t *testing.T) {
	c := exampleConfig()
	is, e := route.Walk(c, 0, api.Leg{From: 5, To: 5}, 3, []int{5})
	wantBool(t, "the goal alone", is, e, true, api.OK)
	is, e = route.Walk(c, 0, api.Leg{From: 5, To: 5}, 3, []int{5, 6, 5})
	wantBool(t, "away and back", is, e, true, api.OK)
	is, e = route.Walk(c, 0, api.Leg{From: 5, To: 4}, 3, []int{5})
	wantBool(t, "the first place alone", is, e, false, api.OK)
	is, e = route.Walk(c, 0, api.Leg{From: 5, To: 4}, 3, []int{4})
	wantBool(t, "the goal of another leg alone", is, e, false, api.OK)
	is, e = route.Walk(c, 0, api.Leg{From: 7, To: 4}, 3, []int{7, 8, 9, 4})
	wantBool(t, "from an aisle in the slice of another tenant", is, e, true, api.OK)
	is, e = route.Walk(c, 0, api.Leg{From: 7, To: 4}, 3, []int{7, 7, 8, 9, 4})
	wantBool(t, "waiting there", is, e, false, api.OK)
}

// P4.4: lists of up to MaxRoute + 1 entries, and longer ones.
func TestWalkOfManyPlaces(t *testing.T) {
	c, g := exampleConfig(), api.Leg{From: 0, To: 5}
	for _, many := range []int{1023, 1024, 1025} {
		is, e := route.Walk(c, 0, g, api.MaxLook, append(repeated(0, many-1), 5))
		wantBool(t, "a long walk", is, e, true, api.OK)
		is, e = route.Walk(c, 0, g, api.MaxLook, repeated(0, many))
		wantBool(t, "a long list that is no walk to the goal", is, e, false, api.OK)
		is, e = route.Walk(c, 0, g, api.MaxLook, repeated(-1, many))
		wantBool(t, "a long list of no places", is, e, false, api.OK)
	}
	for _, many := range []int{1026, 1027, 2050, 1 << 16} {
		is, e := route.Walk(c, 0, g, 0, append(repeated(0, many-1), 5))
		wantBool(t, "too long a walk", is, e, false, api.ErrMany)
		is, e = route.Walk(c, 0, g, 0, repeated(-1, many))
		wantBool(t, "too long a list of no places", is, e, false, api.ErrMany)
	}
}

// P4.4: Walk, for routes, and for lists that differ from one in one entry, or that have one more or less.
func TestWalk(t *testing.T) {
	eachTrip(func(c api.Config, tenant int, g api.Leg) {
		check := func(tick uint64, l []int) {
			is, e := route.Walk(c, tenant, g, tick, l)
			wantBool(t, "Walk", is, e, specWalk(c, tenant, g, tick, l), api.OK)
		}
		tick := uint64(g.From % len(c.Slices))
		if specArrival(c, tenant, g, tick) < 0 {
			check(tick, []int{g.From, g.To})
			return
		}
		l := specRoute(c, tenant, g, tick)
		check(tick, l)
		check(tick+1, l)
		check(api.MaxLook, l)
		for i := range l {
			check(tick, slices.Delete(slices.Clone(l), i, i+1))
			check(tick, slices.Insert(slices.Clone(l), i, l[i]))
			for _, p := range specAround(c.Floor, l[i]) {
				other := slices.Clone(l)
				other[i] = p
				check(tick, other)
				check(tick, slices.Insert(slices.Clone(l), i, l[i], p))
			}
		}
	})
}

package route_test

import (
	"testing"

	"dunnage/api"
	"dunnage/route"
)

// P4.1: Allowed, by the document's example.
func TestAllowedExample(t *testing.T) {
	c := exampleConfig()
	for _, aisle := range []int{2, 7, 12, 17} {
		for tick, owner := range []int{0, 0, -1, 1, 1, -1, 0, 0, -1, 1} {
			for tenant := range 2 {
				is, e := route.Allowed(c, tenant, aisle, uint64(tick))
				wantBool(t, "Allowed at an aisle", is, e, tenant == owner, api.OK)
			}
		}
	}
	for tick := range uint64(7) {
		is, e := route.Allowed(c, 0, 9, tick)
		wantBool(t, "Allowed at an own cell", is, e, true, api.OK)
		is, e = route.Allowed(c, 0, 10, tick)
		wantBool(t, "Allowed at a cell of another tenant", is, e, false, api.OK)
	}
	is, e := route.Allowed(crowdedConfig(), 0, 0, 0)
	wantBool(t, "Allowed at a wall", is, e, false, api.OK)
}

// P4.1: Allowed, everywhere.
func TestAllowed(t *testing.T) {
	eachTenant(func(c api.Config, tenant int) {
		for p := range c.Floor.Cells {
			for _, tick := range ticksOf(c) {
				is, e := route.Allowed(c, tenant, p, tick)
				wantBool(t, "Allowed", is, e, specAllowed(c, tenant, p, tick), api.OK)
			}
		}
	})
}

// P4.1: Cells, by the document's example, and from and to spots and aisles.
func TestCellsExample(t *testing.T) {
	for _, x := range []struct {
		from, to int
		want     []int
	}{
		{5, 4, []int{1, 2, 3, 4, 5, 6, 7, 8, 9, 12, 17}},
		{0, 5, []int{0, 1, 2, 3, 5, 6, 7, 8, 9, 12, 17}},
		{12, 8, []int{1, 2, 3, 6, 7, 8, 9, 12, 17}},
		{0, 0, []int{0, 1, 2, 3, 6, 7, 8, 9, 12, 17}},
	} {
		l, e := route.Cells(exampleConfig(), 0, api.Leg{From: x.from, To: x.to})
		wantInts(t, "Cells", l, e, x.want, api.OK)
	}
	l, e := route.Cells(exampleConfig(), 1, api.Leg{From: 15, To: 14})
	wantInts(t, "Cells", l, e, []int{2, 7, 11, 12, 13, 14, 15, 16, 17, 18, 19}, api.OK)
	l, e = route.Cells(loneConfig(), 0, api.Leg{From: 0, To: 3})
	wantInts(t, "Cells", l, e, []int{0, 1, 3}, api.OK)
}

// P4.1: Cells, of all legs.
func TestCells(t *testing.T) {
	eachTrip(func(c api.Config, tenant int, g api.Leg) {
		var want []int
		for p := range c.Floor.Cells {
			if specIsCell(c, tenant, g, p) {
				want = append(want, p)
			}
		}
		l, e := route.Cells(c, tenant, g)
		wantInts(t, "Cells", l, e, want, api.OK)
	})
}

// P4.1: Free, at the cells of a leg, at other spots, and at aisles in and out of the tenant's slices.
func TestFreeExample(t *testing.T) {
	c, g := exampleConfig(), api.Leg{From: 5, To: 4}
	for _, x := range []struct {
		p    int
		tick uint64
		want bool
	}{
		{5, 0, true}, {4, 2, true}, {1, 3, true}, {0, 0, false}, {0, 1, false}, {10, 0, false}, {10, 3, false},
		{7, 0, true}, {7, 1, true}, {7, 2, false}, {7, 3, false}, {7, 5, false}, {7, 6, true}, {7, 8, false}, {7, 9, false},
	} {
		is, e := route.Free(c, 0, g, x.p, x.tick)
		wantBool(t, "Free", is, e, x.want, api.OK)
	}
	is, e := route.Free(c, 0, api.Leg{From: 2, To: 4}, 2, 3)
	wantBool(t, "Free at the first place, an aisle in the slice of another tenant", is, e, false, api.OK)
}

// P4.1: Free, on all legs.
func TestFree(t *testing.T) {
	eachTrip(func(c api.Config, tenant int, g api.Leg) {
		for p := range c.Floor.Cells {
			for _, tick := range []uint64{1, 5, api.MaxLook} {
				is, e := route.Free(c, tenant, g, p, tick)
				wantBool(t, "Free", is, e, specFree(c, tenant, g, p, tick), api.OK)
			}
		}
	})
}

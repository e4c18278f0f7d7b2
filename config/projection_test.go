package config_test

import (
	"slices"
	"testing"

	"dunnage/api"
	"dunnage/config"
	"dunnage/floor"
)

// only returns the projection of a valid config to a present tenant.
func only(t *testing.T, c api.Config, tenant int) api.Config {
	t.Helper()
	o, e := config.Only(c, tenant)
	wantErrno(t, "Only", e, api.OK)
	return o
}

// eachProjection calls a function with valid configs and each of their present tenants.
func eachProjection(do func(c api.Config, tenant int)) {
	for _, c := range validConfigs() {
		for tenant := range c.Teams {
			if isThere(c, tenant) {
				do(c, tenant)
			}
		}
	}
}

// P3.3: Only, by the document's example.
func TestOnlyExample(t *testing.T) {
	o := only(t, exampleConfig(), 1)
	want := exampleConfig()
	want.Floor.Cells = []uint8{
		0, 0, 255, 0, 0,
		0, 0, 255, 0, 0,
		2, 2, 255, 2, 2,
		2, 2, 255, 2, 2,
	}
	want.Slices = []uint8{0, 0, 0, 2, 2, 0}
	want.Teams[0] = api.Team{}
	wantConfig(t, "Only", o, api.OK, want, api.OK)
	l, e := config.Tenants(o)
	wantInts(t, "Tenants", l, e, []int{1}, api.OK)
	s, e := floor.Draw(o.Floor)
	if s != "##.##\n##.##\n11.11\n11.11\n" || e != api.OK {
		t.Errorf("Draw: %q, %d", s, e)
	}
}

// P3.3: Only, field by field.
func TestOnly(t *testing.T) {
	eachProjection(func(c api.Config, tenant int) {
		want := copied(c)
		own := uint8(tenant + 1)
		for p, cell := range c.Floor.Cells {
			if cell >= 1 && cell <= 3 && cell != own {
				want.Floor.Cells[p] = api.CellWall
			}
		}
		for i, entry := range c.Slices {
			if entry != own {
				want.Slices[i] = 0
			}
		}
		for other := range c.Teams {
			if other != tenant {
				want.Teams[other] = api.Team{}
			}
		}
		o, e := config.Only(c, tenant)
		wantConfig(t, "Only", o, e, want, api.OK)
	})
}

// P3.3: the errors of Only.
func TestOnlyErrors(t *testing.T) {
	for _, c := range validConfigs() {
		for _, tenant := range append([]int{-2, -1, 0, 1, 2, 3, 4}, hugeNumbers...) {
			if !isThere(c, tenant) {
				o, e := config.Only(c, tenant)
				wantConfig(t, "Only of no tenant", o, e, api.Config{}, api.ErrArg)
			}
		}
	}
	for _, bad := range badConfigs() {
		for _, tenant := range []int{0, -1, 3} {
			o, e := config.Only(bad.c, tenant)
			wantConfig(t, bad.what, o, e, api.Config{}, bad.e)
		}
	}
}

// P3.7: a projection is valid, has one tenant, and is its own projection.
func TestProjectionOfProjection(t *testing.T) {
	eachProjection(func(c api.Config, tenant int) {
		o := only(t, c, tenant)
		wantErrno(t, "Check of a projection", config.Check(o), api.OK)
		l, e := config.Tenants(o)
		wantInts(t, "Tenants of a projection", l, e, []int{tenant}, api.OK)
		again, e := config.Only(o, tenant)
		wantConfig(t, "Only of a projection", again, e, o, api.OK)
		for other := range 4 {
			if other != tenant {
				_, e := config.Only(o, other)
				wantErrno(t, "Only of a projection for another tenant", e, api.ErrArg)
			}
		}
	})
}

// agree reports whether two values of a cell, or of an entry, are the same for a tenant: its own, an aisle, or none of these.
func agree(a, b []uint8, tenant int) bool {
	return slices.EqualFunc(a, b, func(x, y uint8) bool {
		visible := func(value uint8) bool { return value == uint8(tenant+1) || value == api.CellAisle }
		return x == y || !visible(x) && !visible(y)
	})
}

// alike reports whether two configs agree in all that a tenant may see.
func alike(a, b api.Config, tenant int) bool {
	return a.Floor.W == b.Floor.W && a.Floor.H == b.Floor.H && len(a.Teams) == len(b.Teams) && a.Start == b.Start &&
		equalTeams(a.Teams[tenant], b.Teams[tenant]) && agree(a.Floor.Cells, b.Floor.Cells, tenant) && agree(a.Slices, b.Slices, tenant)
}

// neighbours returns valid configs that differ from a config in one part, or in what one tenant has.
func neighbours(c api.Config) []api.Config {
	all := []api.Config{c}
	add := func(change func(c *api.Config)) {
		if x := changed(c, change); config.Check(x) == api.OK {
			all = append(all, x)
		}
	}
	for p := range c.Floor.Cells {
		for _, value := range []uint8{0, 1, 2, 3, 255} {
			add(func(c *api.Config) { c.Floor.Cells[p] = value })
		}
	}
	for i := range c.Slices {
		for value := range uint8(4) {
			add(func(c *api.Config) { c.Slices[i] = value })
		}
	}
	for tenant, m := range c.Teams {
		for i := range 5 {
			add(func(c *api.Config) {
				numbers, _ := numbersOf(&c.Teams[tenant])
				*numbers[i]++
			})
		}
		add(func(c *api.Config) { slices.Reverse(c.Teams[tenant].Picks) })
		for i := range config.Spots(m) {
			add(func(c *api.Config) { *spotOf(&c.Teams[tenant], i) ^= 1 })
		}
		add(func(c *api.Config) {
			c.Teams[tenant] = api.Team{}
			for p, cell := range c.Floor.Cells {
				if cell == uint8(tenant+1) {
					c.Floor.Cells[p] = api.CellWall
				}
			}
			for i, entry := range c.Slices {
				if entry == uint8(tenant+1) {
					c.Slices[i] = 0
				}
			}
		})
	}
	add(func(c *api.Config) { c.Slices = append(c.Slices, 0) })
	add(func(c *api.Config) { c.Teams = append(c.Teams, api.Team{}) })
	add(func(c *api.Config) { c.Floor.W, c.Floor.H = c.Floor.H, c.Floor.W })
	add(func(c *api.Config) { c.Start ^= 1 })
	return all
}

// P3.7: projections are equal exactly if the configs agree in all that the tenant may see.
func TestEqualProjections(t *testing.T) {
	equalPairs, otherPairs := 0, 0
	for _, c := range []api.Config{exampleConfig(), gapConfig(), loneConfig(), lastConfig(), tailConfig(), drawnConfig(5)} {
		configs := neighbours(c)
		for tenant := range 3 {
			if !isThere(c, tenant) {
				continue
			}
			var present, projections []api.Config
			for _, x := range configs {
				if isThere(x, tenant) {
					present = append(present, x)
					projections = append(projections, only(t, x, tenant))
				}
			}
			for i, a := range present {
				for j, b := range present {
					want := alike(a, b, tenant)
					if config.Same(projections[i], projections[j]) != want {
						t.Fatalf("the projections of %v and %v to %d: Same is not %v", a, b, tenant, want)
					}
					if want && i != j {
						equalPairs++
					} else if !want {
						otherPairs++
					}
				}
			}
		}
	}
	if equalPairs < 100 || otherPairs < 100 {
		t.Errorf("%d pairs of equal projections, %d of others", equalPairs, otherPairs)
	}
}

// P3.7: what another tenant has cannot be seen in the projection.
func TestOthersCannotBeSeen(t *testing.T) {
	a := exampleConfig()
	b := exampleConfig()
	b.Floor.Cells[11], b.Floor.Cells[16] = api.CellWall, api.CellWall
	b.Slices[2], b.Slices[3] = 2, 0
	b.Teams[1] = api.Team{Homes: []int{19, 18}, Picks: []int{13}, Drops: []int{15, 10}, Load: 8, Unload: 7, Queue: 6, Quota: 5, Window: 4}
	wantErrno(t, "Check", config.Check(b), api.OK)
	wantConfig(t, "the projection to tenant 0", only(t, b, 0), api.OK, only(t, a, 0), api.OK)
	if config.Same(only(t, b, 1), only(t, a, 1)) {
		t.Error("the projections to tenant 1 are equal")
	}
	alone := changed(a, func(c *api.Config) {
		c.Teams[1] = api.Team{}
		for p, cell := range c.Floor.Cells {
			if cell == 2 {
				c.Floor.Cells[p] = api.CellWall
			}
		}
		c.Slices = []uint8{1, 1, 0, 0, 0, 0}
	})
	wantConfig(t, "the projection without tenant 1", only(t, alone, 0), api.OK, only(t, a, 0), api.OK)
	wantConfig(t, "a config of one tenant", only(t, alone, 0), api.OK, alone, api.OK)
}

package config_test

import (
	"math"
	"slices"
	"testing"

	"dunnage/api"
	"dunnage/config"
)

// isThere reports whether a tenant is present in a valid config.
func isThere(c api.Config, tenant int) bool {
	return tenant >= 0 && tenant < len(c.Teams) && len(c.Teams[tenant].Homes) > 0
}

// P3.2: Check.
func TestCheck(t *testing.T) {
	for _, c := range validConfigs() {
		if e := config.Check(c); e != api.OK {
			t.Errorf("Check(%v): %d", c, e)
		}
	}
	for _, bad := range badConfigs() {
		wantErrno(t, bad.what, config.Check(bad.c), bad.e)
	}
}

// P3.2: the document's examples of Check.
func TestCheckExamples(t *testing.T) {
	c := exampleConfig()
	wantErrno(t, "the example", config.Check(c), api.OK)
	wantErrno(t, "with the cell 3", config.Check(withCell(c, 1, 3)), api.ErrTeam)
	wantErrno(t, "with the entry 3", config.Check(withEntry(c, 0, 3)), api.ErrTeam)
	wantErrno(t, "with an absent team", config.Check(withTeam(c, 1, api.Team{})), api.ErrTeam)
	c.Start = 1<<62 + 1
	wantErrno(t, "with a later Start", config.Check(c), api.ErrArg)
	c.Start = 1 << 62
	wantErrno(t, "with the last Start", config.Check(c), api.OK)
}

// P3.2: the number of teams, and that one is present.
func TestCheckNumberOfTeams(t *testing.T) {
	for many := range 6 {
		c := loneConfig()
		c.Teams = append(c.Teams, make([]api.Team, 5)...)[:many]
		want := api.ErrTeam
		if many >= 1 && many <= 3 {
			want = api.OK
		}
		wantErrno(t, "Check with more teams", config.Check(c), want)
		c.Teams = make([]api.Team, many)
		wantErrno(t, "Check with absent teams only", config.Check(c), api.ErrTeam)
		clear(c.Floor.Cells)
		wantErrno(t, "Check of walls with absent teams only", config.Check(c), api.ErrTeam)
	}
	c := loneConfig()
	c.Teams = slices.Repeat(c.Teams, 100000)
	wantErrno(t, "Check of many teams", config.Check(c), api.ErrTeam)
}

// P3.2: what makes an absent tenant's config invalid is a cell alone, or an entry alone.
func TestAbsentTenantOwnsNothing(t *testing.T) {
	c := gapConfig()
	c.Teams[0] = api.Team{}
	wantErrno(t, "cells and an entry", config.Check(c), api.ErrTeam)
	walls := copied(c)
	clear(walls.Floor.Cells[:4])
	wantErrno(t, "an entry alone", config.Check(walls), api.ErrTeam)
	c.Slices[0] = 0
	wantErrno(t, "cells alone", config.Check(c), api.ErrTeam)
	walls.Slices[0] = 0
	wantErrno(t, "nothing", config.Check(walls), api.OK)
	wantErrno(t, "a tenant without an entry", config.Check(withEntry(gapConfig(), 0, 0)), api.OK)
}

// P3.2: the order of Check's errors.
func TestCheckOrder(t *testing.T) {
	spoil := []func(c *api.Config){
		func(c *api.Config) { c.Floor.Cells[2] = 4 },
		func(c *api.Config) { c.Slices[2] = 4 },
		func(c *api.Config) { c.Teams[1].Window = 65 },
		func(c *api.Config) { c.Start = math.MaxUint64 },
	}
	errors := []api.Errno{api.ErrFloor, api.ErrSlices, api.ErrTeam, api.ErrArg}
	for set := range 1 << len(spoil) {
		c := exampleConfig()
		want := api.OK
		for i := len(spoil) - 1; i >= 0; i-- {
			if set>>i&1 == 1 {
				spoil[i](&c)
				want = errors[i]
			}
		}
		wantErrno(t, "Check of a config with several errors", config.Check(c), want)
	}
}

// P3.2: Start.
func TestCheckStart(t *testing.T) {
	for _, start := range []uint64{0, 1, 255, 1<<62 - 1, 1 << 62} {
		c := exampleConfig()
		c.Start = start
		wantErrno(t, "Check", config.Check(c), api.OK)
	}
	for _, start := range []uint64{1<<62 + 1, 1<<62 + 2048, 1<<63 - 1, 1 << 63, 1<<63 + 1, math.MaxUint64 - 1, math.MaxUint64} {
		c := exampleConfig()
		c.Start = start
		wantErrno(t, "Check", config.Check(c), api.ErrArg)
	}
}

// P3.6: one cell of a valid config is replaced by each value.
func TestReplacedCell(t *testing.T) {
	for _, c := range validConfigs() {
		for p, old := range c.Floor.Cells {
			isSpot := slices.ContainsFunc(c.Teams, func(m api.Team) bool { return slices.Contains(config.Spots(m), p) })
			for value := range 256 {
				want := api.OK
				switch {
				case value > 3 && value != 255:
					want = api.ErrFloor
				case value >= 1 && value <= 3 && !isThere(c, value-1), isSpot && value != int(old):
					want = api.ErrTeam
				}
				if e := config.Check(withCell(c, p, uint8(value))); e != want {
					t.Fatalf("the cell %d at %d of %v: %d, want %d", value, p, c, e, want)
				}
			}
		}
	}
}

// P3.6: one entry of a valid config's slice table is replaced by each value.
func TestReplacedEntry(t *testing.T) {
	for _, c := range validConfigs() {
		for i := range c.Slices {
			for value := range 256 {
				want := api.OK
				if value > 3 {
					want = api.ErrSlices
				} else if value > 0 && !isThere(c, value-1) {
					want = api.ErrTeam
				}
				if e := config.Check(withEntry(c, i, uint8(value))); e != want {
					t.Fatalf("the entry %d at %d of %v: %d, want %d", value, i, c, e, want)
				}
			}
		}
	}
}

// P3.3: Present.
func TestPresent(t *testing.T) {
	want := func(c api.Config, tenant int, want bool, wantE api.Errno) {
		t.Helper()
		if is, e := config.Present(c, tenant); is != want || e != wantE {
			t.Errorf("Present(%v, %d): %v, %d, want %v, %d", c, tenant, is, e, want, wantE)
		}
	}
	want(exampleConfig(), 1, true, api.OK)
	want(exampleConfig(), 2, false, api.ErrArg)
	want(gapConfig(), 1, false, api.OK)
	want(gapConfig(), 2, true, api.OK)
	want(tailConfig(), 2, false, api.OK)
	for _, c := range validConfigs() {
		for tenant := range c.Teams {
			want(c, tenant, isThere(c, tenant), api.OK)
		}
		for _, tenant := range append([]int{-2, -1, len(c.Teams), 3, 4}, hugeNumbers...) {
			want(c, tenant, false, api.ErrArg)
		}
	}
	for _, bad := range badConfigs() {
		for _, tenant := range []int{0, -1, 3} {
			want(bad.c, tenant, false, bad.e)
		}
	}
}

// P3.3: Tenants.
func TestTenants(t *testing.T) {
	for _, x := range []struct {
		c    api.Config
		want []int
	}{
		{exampleConfig(), []int{0, 1}},
		{fullConfig(), []int{0, 1, 2}},
		{loneConfig(), []int{0}},
		{gapConfig(), []int{0, 2}},
		{lastConfig(), []int{2}},
		{tailConfig(), []int{0}},
	} {
		l, e := config.Tenants(x.c)
		wantInts(t, "Tenants", l, e, x.want, api.OK)
	}
	for _, c := range validConfigs() {
		var want []int
		for tenant := range 3 {
			if isThere(c, tenant) {
				want = append(want, tenant)
			}
		}
		l, e := config.Tenants(c)
		wantInts(t, "Tenants", l, e, want, api.OK)
	}
	for _, bad := range badConfigs() {
		l, e := config.Tenants(bad.c)
		wantInts(t, bad.what, l, e, nil, bad.e)
	}
}

// differences returns changes of a config, valid or not, each of which changes one field only. The last team needs a spot of each kind.
func differences() map[string]func(c *api.Config) {
	last := func(c *api.Config) *api.Team { return &c.Teams[len(c.Teams)-1] }
	return map[string]func(c *api.Config){
		"W":            func(c *api.Config) { c.Floor.W++ },
		"H":            func(c *api.Config) { c.Floor.H-- },
		"first cell":   func(c *api.Config) { c.Floor.Cells[0] ^= 1 },
		"last cell":    func(c *api.Config) { c.Floor.Cells[len(c.Floor.Cells)-1] ^= 128 },
		"fewer cells":  func(c *api.Config) { c.Floor.Cells = c.Floor.Cells[:len(c.Floor.Cells)-1] },
		"more cells":   func(c *api.Config) { c.Floor.Cells = append(c.Floor.Cells, 0) },
		"first entry":  func(c *api.Config) { c.Slices[0] ^= 2 },
		"last entry":   func(c *api.Config) { c.Slices[len(c.Slices)-1] ^= 4 },
		"more entries": func(c *api.Config) { c.Slices = append(c.Slices, 0) },
		"no entries":   func(c *api.Config) { c.Slices = nil },
		"more teams":   func(c *api.Config) { c.Teams = append(c.Teams, api.Team{}) },
		"no teams":     func(c *api.Config) { c.Teams = nil },
		"other home":   func(c *api.Config) { last(c).Homes[0]++ },
		"more homes":   func(c *api.Config) { last(c).Homes = append(last(c).Homes, 0) },
		"no homes":     func(c *api.Config) { last(c).Homes = nil },
		"other pick":   func(c *api.Config) { last(c).Picks[0] = -1 },
		"more picks":   func(c *api.Config) { last(c).Picks = append(last(c).Picks, 7) },
		"no picks":     func(c *api.Config) { last(c).Picks = []int{} },
		"other drop":   func(c *api.Config) { last(c).Drops[len(last(c).Drops)-1] += 1 << 32 },
		"more drops":   func(c *api.Config) { last(c).Drops = append(last(c).Drops, last(c).Drops[0]) },
		"no drops":     func(c *api.Config) { last(c).Drops = nil },
		"Load":         func(c *api.Config) { last(c).Load += 256 },
		"Unload":       func(c *api.Config) { last(c).Unload-- },
		"Queue":        func(c *api.Config) { last(c).Queue = math.MinInt },
		"Quota":        func(c *api.Config) { last(c).Quota++ },
		"Window":       func(c *api.Config) { last(c).Window = 0 },
		"Start":        func(c *api.Config) { c.Start ^= 1 << 63 },
		"other Start":  func(c *api.Config) { c.Start++ },
	}
}

// P3.3: Same, of valid configs and of others.
func TestSame(t *testing.T) {
	want := func(what string, a, b api.Config, want bool) {
		t.Helper()
		if config.Same(a, b) != want || config.Same(b, a) != want {
			t.Errorf("%s: Same(%v, %v) is not %v", what, a, b, want)
		}
	}
	for _, c := range []api.Config{exampleConfig(), fullConfig(), loneConfig(), gapConfig(), lastConfig()} {
		want("a copy", c, copied(c), true)
		want("nothing", c, api.Config{}, false)
		for what, change := range differences() {
			other := changed(c, change)
			want(what, c, other, false)
			want(what, other, copied(other), true)
		}
	}
	exchanged := exampleConfig()
	slices.Reverse(exchanged.Teams)
	want("teams in another order", exampleConfig(), exchanged, false)
	swapped := exampleConfig()
	swapped.Teams[0].Homes, swapped.Teams[0].Picks = swapped.Teams[0].Picks, swapped.Teams[0].Homes
	want("homes and picks exchanged", exampleConfig(), swapped, false)
	want("spots in another order", fullConfig(), changed(fullConfig(), func(c *api.Config) { slices.Reverse(c.Teams[2].Drops) }), false)
	want("entries in another order", exampleConfig(), changed(exampleConfig(), func(c *api.Config) { slices.Reverse(c.Slices) }), false)
	configs := validConfigs()
	for i, a := range configs {
		for j, b := range configs {
			want("two of many", a, b, equal(a, b))
			if i == j {
				want("itself", a, b, true)
			}
		}
	}
}

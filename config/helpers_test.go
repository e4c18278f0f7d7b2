package config_test

import (
	"math"
	"slices"
	"testing"

	"dunnage/api"
	"dunnage/config"
)

// hugeNumbers are far out of each range, and so chosen that a conversion to fewer bits, or a sum, would bring them back.
var hugeNumbers = []int{math.MinInt, math.MinInt + 1, -1 << 32, -255, 256, 257, 1 << 32, 1<<32 + 1, 1 << 62, math.MaxInt - 1, math.MaxInt}

// wantErrno checks an error number.
func wantErrno(t *testing.T, what string, got, want api.Errno) {
	t.Helper()
	if got != want {
		t.Errorf("%s: error %d, want %d", what, got, want)
	}
}

// wantInts checks a list and an error number.
func wantInts(t *testing.T, what string, got []int, e api.Errno, want []int, wantE api.Errno) {
	t.Helper()
	if !slices.Equal(got, want) || e != wantE {
		t.Errorf("%s: %v, %d, want %v, %d", what, got, e, want, wantE)
	}
}

// wantBytes checks bytes and an error number.
func wantBytes(t *testing.T, what string, got []byte, e api.Errno, want []byte, wantE api.Errno) {
	t.Helper()
	if !slices.Equal(got, want) || e != wantE {
		t.Errorf("%s: %v, %d, want %v, %d", what, got, e, want, wantE)
	}
}

// wantConfig checks a config, without the help of Same, and an error number.
func wantConfig(t *testing.T, what string, got api.Config, e api.Errno, want api.Config, wantE api.Errno) {
	t.Helper()
	if !equal(got, want) || e != wantE {
		t.Errorf("%s: %v, %d, want %v, %d", what, got, e, want, wantE)
	}
}

// equal reports whether two configs are equal, field by field.
func equal(a, b api.Config) bool {
	if a.Floor.W != b.Floor.W || a.Floor.H != b.Floor.H || a.Start != b.Start || len(a.Teams) != len(b.Teams) {
		return false
	}
	for t := range a.Teams {
		if !equalTeams(a.Teams[t], b.Teams[t]) {
			return false
		}
	}
	return slices.Equal(a.Floor.Cells, b.Floor.Cells) && slices.Equal(a.Slices, b.Slices)
}

// equalTeams reports whether two teams are equal, field by field.
func equalTeams(m, n api.Team) bool {
	return slices.Equal(m.Homes, n.Homes) && slices.Equal(m.Picks, n.Picks) && slices.Equal(m.Drops, n.Drops) &&
		[5]int{m.Load, m.Unload, m.Queue, m.Quota, m.Window} == [5]int{n.Load, n.Unload, n.Queue, n.Quota, n.Window}
}

// copied returns a config that shares no memory with another one.
func copied(c api.Config) api.Config {
	c.Floor.Cells = slices.Clone(c.Floor.Cells)
	c.Slices = slices.Clone(c.Slices)
	teams := make([]api.Team, len(c.Teams))
	for t, m := range c.Teams {
		teams[t] = copiedTeam(m)
	}
	c.Teams = teams
	return c
}

// copiedTeam returns a team that shares no memory with another one.
func copiedTeam(m api.Team) api.Team {
	m.Homes, m.Picks, m.Drops = slices.Clone(m.Homes), slices.Clone(m.Picks), slices.Clone(m.Drops)
	return m
}

// changed returns a copy of a config after a change.
func changed(c api.Config, change func(c *api.Config)) api.Config {
	c = copied(c)
	change(&c)
	return c
}

// withCell returns a copy of a config with another value of one cell.
func withCell(c api.Config, p int, value uint8) api.Config {
	return changed(c, func(c *api.Config) { c.Floor.Cells[p] = value })
}

// withEntry returns a copy of a config with another entry of the slice table.
func withEntry(c api.Config, i int, value uint8) api.Config {
	return changed(c, func(c *api.Config) { c.Slices[i] = value })
}

// withTeam returns a copy of a config with another team.
func withTeam(c api.Config, tenant int, m api.Team) api.Config {
	return changed(c, func(c *api.Config) { c.Teams[tenant] = copiedTeam(m) })
}

// exampleConfig returns the example config of the document.
func exampleConfig() api.Config {
	return api.Config{
		Floor: api.Floor{W: 5, H: 4, Cells: []uint8{
			1, 1, 255, 1, 1,
			1, 1, 255, 1, 1,
			2, 2, 255, 2, 2,
			2, 2, 255, 2, 2,
		}},
		Slices: []uint8{1, 1, 0, 2, 2, 0},
		Teams: []api.Team{
			{Homes: []int{0}, Picks: []int{5}, Drops: []int{4}, Load: 1, Unload: 1, Queue: 2, Quota: 2, Window: 8},
			{Homes: []int{10}, Picks: []int{15}, Drops: []int{14}, Load: 1, Unload: 1, Queue: 2, Quota: 2, Window: 8},
		},
	}
}

// exampleFloor returns the floor of the document's example of a team, with walls beside it.
func exampleFloor() api.Floor {
	return api.Floor{W: 3, H: 2, Cells: []uint8{1, 255, 1, 1, 1, 2}}
}

// exampleTeam returns the team of the document's example, for tenant 0 on exampleFloor.
func exampleTeam() api.Team {
	return api.Team{Homes: []int{0}, Picks: []int{2}, Drops: []int{3}, Load: 1, Unload: 8, Queue: 2, Quota: 16, Window: 64}
}

// fullConfig returns a config of the largest floor and table, with three tenants that have all that they may have.
func fullConfig() api.Config {
	cells := make([]uint8, 64)
	for p := range cells {
		switch y := p / 8; {
		case p%8 == 0:
			cells[p] = api.CellAisle
		case y < 6:
			cells[p] = uint8(1 + y/2)
		}
	}
	team := func(first int) api.Team {
		return api.Team{
			Homes: []int{first + 4, first, first + 2}, Picks: []int{first + 8, first + 9, first + 1}, Drops: []int{first + 14, first + 12, first + 3},
			Load: 8, Unload: 8, Queue: 8, Quota: 16, Window: 64,
		}
	}
	return api.Config{
		Floor:  api.Floor{W: 8, H: 8, Cells: cells},
		Slices: []uint8{1, 2, 3, 0, 3, 2, 1, 0, 1, 1, 2, 2, 3, 3, 0, 3},
		Teams:  []api.Team{team(1), team(17), team(33)},
		Start:  api.MaxTick,
	}
}

// loneConfig returns the smallest config: a tenant with three cells, no entry of the table, and the smallest limits.
func loneConfig() api.Config {
	return api.Config{
		Floor:  api.Floor{W: 2, H: 2, Cells: []uint8{1, 1, 1, 0}},
		Slices: []uint8{0},
		Teams:  []api.Team{{Homes: []int{1}, Picks: []int{0}, Drops: []int{2}, Load: 1, Unload: 1, Queue: 1, Quota: 1, Window: 1}},
	}
}

// gapConfig returns a config with an absent team between two others.
func gapConfig() api.Config {
	return api.Config{
		Floor:  api.Floor{W: 4, H: 3, Cells: []uint8{1, 1, 1, 1, 255, 255, 255, 0, 3, 3, 3, 3}},
		Slices: []uint8{1, 0, 3},
		Teams: []api.Team{
			{Homes: []int{0}, Picks: []int{1}, Drops: []int{2}, Load: 1, Unload: 2, Queue: 3, Quota: 4, Window: 5},
			{},
			{Homes: []int{8}, Picks: []int{9}, Drops: []int{11}, Load: 8, Unload: 7, Queue: 6, Quota: 16, Window: 64},
		},
		Start: 0x0102030405060708,
	}
}

// lastConfig returns a config in which only the last tenant is present.
func lastConfig() api.Config {
	c := gapConfig()
	c.Teams[0] = api.Team{}
	for p := range 4 {
		c.Floor.Cells[p] = api.CellAisle
	}
	c.Slices[0] = 0
	return c
}

// tailConfig returns a config with absent teams at the end.
func tailConfig() api.Config {
	c := loneConfig()
	c.Teams = append(c.Teams, api.Team{}, api.Team{})
	return c
}

// drawer returns a function that draws numbers below a limit, the same ones in each run.
func drawer(seed int) func(limit int) int {
	x := uint32(seed)
	return func(limit int) int {
		x = x*1664525 + 1013904223
		return int(x>>16) % limit
	}
}

// drawnConfig returns a valid config; another seed leads to another one.
func drawnConfig(seed int) api.Config {
	draw := drawer(seed)
	c := api.Config{Floor: api.Floor{W: 5 + draw(4), H: 4 + draw(5)}, Start: uint64(draw(1<<16)) << draw(47)}
	c.Teams = make([]api.Team, 1+draw(3))
	allowed := []uint8{api.CellWall, api.CellAisle}
	for t := range c.Teams {
		if draw(3) > 0 || t == len(c.Teams)-1 && len(allowed) == 2 {
			allowed = append(allowed, uint8(t+1))
		}
	}
	for range c.Floor.W * c.Floor.H {
		c.Floor.Cells = append(c.Floor.Cells, allowed[draw(len(allowed))])
	}
	for range 1 + draw(16) {
		entry := allowed[draw(len(allowed))]
		if entry == api.CellAisle {
			entry = 0
		}
		c.Slices = append(c.Slices, entry)
	}
	next := 0
	for _, value := range allowed[2:] {
		spots := func(many int) (places []int) {
			for range many {
				next += 1 + draw(2)
				p := next * 7 % len(c.Floor.Cells)
				for slices.ContainsFunc(c.Teams, func(m api.Team) bool { return slices.Contains(config.Spots(m), p) }) || slices.Contains(places, p) {
					p = (p + 1) % len(c.Floor.Cells)
				}
				c.Floor.Cells[p] = value
				places = append(places, p)
			}
			return places
		}
		m := &c.Teams[value-1]
		*m = api.Team{Load: 1 + draw(8), Unload: 1 + draw(8), Queue: 1 + draw(8), Quota: 1 + draw(16), Window: 1 + draw(64)}
		m.Homes = spots(1 + draw(2))
		m.Picks = spots(1 + draw(2))
		m.Drops = spots(1 + draw(2))
	}
	return c
}

// validConfigs returns valid configs of all kinds.
func validConfigs() []api.Config {
	all := []api.Config{exampleConfig(), fullConfig(), loneConfig(), gapConfig(), lastConfig(), tailConfig()}
	for seed := range 40 {
		all = append(all, drawnConfig(seed))
	}
	return all
}

// badConfig is a config that is not valid, and the error that Check returns for it.
type badConfig struct {
	what string
	c    api.Config
	e    api.Errno
}

// badConfigs returns configs that are not valid.
func badConfigs() []badConfig {
	example := exampleConfig()
	floorless := changed(example, func(c *api.Config) { c.Floor = api.Floor{} })
	return []badConfig{
		{"nothing", api.Config{}, api.ErrFloor},
		{"no floor", floorless, api.ErrFloor},
		{"a cell too few", changed(example, func(c *api.Config) { c.Floor.Cells = c.Floor.Cells[:19] }), api.ErrFloor},
		{"sides that wrap to 0", changed(example, func(c *api.Config) { c.Floor = api.Floor{W: 1 << 32, H: 1 << 32} }), api.ErrFloor},
		{"the cell 4", withCell(example, 2, 4), api.ErrFloor},
		{"no slice table", changed(example, func(c *api.Config) { c.Slices = nil }), api.ErrSlices},
		{"17 entries", changed(example, func(c *api.Config) { c.Slices = make([]uint8, 17) }), api.ErrSlices},
		{"the entry 4", withEntry(example, 2, 4), api.ErrSlices},
		{"no teams", changed(example, func(c *api.Config) { c.Teams = nil }), api.ErrTeam},
		{"four teams", changed(example, func(c *api.Config) { c.Teams = append(c.Teams, api.Team{}, api.Team{}) }), api.ErrTeam},
		{"teams and nothing present", changed(loneConfig(), func(c *api.Config) {
			c.Teams[0] = api.Team{}
			clear(c.Floor.Cells)
		}), api.ErrTeam},
		{"a cell of an absent team", withCell(gapConfig(), 7, 2), api.ErrTeam},
		{"a cell of a tenant without a team", withCell(example, 2, 3), api.ErrTeam},
		{"an entry of an absent team", withEntry(gapConfig(), 1, 2), api.ErrTeam},
		{"an entry of a tenant without a team", withEntry(example, 2, 3), api.ErrTeam},
		{"an invalid team", changed(example, func(c *api.Config) { c.Teams[1].Load = 9 }), api.ErrTeam},
		{"a spot of another tenant", changed(example, func(c *api.Config) { c.Teams[1].Picks[0] = 1 }), api.ErrTeam},
		{"Start beyond MaxTick", changed(example, func(c *api.Config) { c.Start = api.MaxTick + 1 }), api.ErrArg},
		{"the last Start", changed(example, func(c *api.Config) { c.Start = math.MaxUint64 }), api.ErrArg},
	}
}

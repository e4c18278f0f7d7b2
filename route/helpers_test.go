package route_test

import (
	"math"
	"slices"
	"testing"

	"dunnage/api"
)

// hugeNumbers are far out of each range, and so chosen that a conversion to fewer bits, or a sum, would bring them back.
var hugeNumbers = []int{math.MinInt, math.MinInt + 1, -1 << 32, -256, 256, 257, 1 << 32, 1<<32 + 5, 1 << 62, math.MaxInt - 1, math.MaxInt}

// lateTicks are beyond MaxLook.
var lateTicks = []uint64{api.MaxLook + 1, api.MaxLook + 4, 1 << 63, math.MaxUint64 - 5, math.MaxUint64}

// wantErrno checks an error number.
func wantErrno(t *testing.T, what string, got, want api.Errno) {
	t.Helper()
	if got != want {
		t.Errorf("%s: error %d, want %d", what, got, want)
	}
}

// wantBool checks a truth value and an error number.
func wantBool(t *testing.T, what string, got bool, e api.Errno, want bool, wantE api.Errno) {
	t.Helper()
	if got != want || e != wantE {
		t.Errorf("%s: %t, %d, want %t, %d", what, got, e, want, wantE)
	}
}

// wantInt checks a number and an error number.
func wantInt(t *testing.T, what string, got int, e api.Errno, want int, wantE api.Errno) {
	t.Helper()
	if got != want || e != wantE {
		t.Errorf("%s: %d, %d, want %d, %d", what, got, e, want, wantE)
	}
}

// wantInts checks a list and an error number.
func wantInts(t *testing.T, what string, got []int, e api.Errno, want []int, wantE api.Errno) {
	t.Helper()
	if !slices.Equal(got, want) || e != wantE {
		t.Errorf("%s: %v, %d, want %v, %d", what, got, e, want, wantE)
	}
}

// wantLegs checks a list of legs and an error number.
func wantLegs(t *testing.T, what string, got []api.Leg, e api.Errno, want []api.Leg, wantE api.Errno) {
	t.Helper()
	if !slices.Equal(got, want) || e != wantE {
		t.Errorf("%s: %v, %d, want %v, %d", what, got, e, want, wantE)
	}
}

// copied returns a config that shares no memory with another one.
func copied(c api.Config) api.Config {
	c.Floor.Cells = slices.Clone(c.Floor.Cells)
	c.Slices = slices.Clone(c.Slices)
	c.Teams = slices.Clone(c.Teams)
	for t := range c.Teams {
		m := &c.Teams[t]
		m.Homes, m.Picks, m.Drops = slices.Clone(m.Homes), slices.Clone(m.Picks), slices.Clone(m.Drops)
	}
	return c
}

// changed returns a copy of a config after a change.
func changed(c api.Config, change func(c *api.Config)) api.Config {
	c = copied(c)
	change(&c)
	return c
}

// withSlices returns a copy of a config with another slice table.
func withSlices(c api.Config, entries ...uint8) api.Config {
	return changed(c, func(c *api.Config) { c.Slices = entries })
}

// cellsOf returns a floor with some rows, in the text form.
func cellsOf(rows ...string) api.Floor {
	f := api.Floor{W: len(rows[0]), H: len(rows)}
	for _, row := range rows {
		for _, char := range row {
			switch char {
			case '#':
				f.Cells = append(f.Cells, api.CellWall)
			case '.':
				f.Cells = append(f.Cells, api.CellAisle)
			default:
				f.Cells = append(f.Cells, uint8(char-'0')+1)
			}
		}
	}
	return f
}

// teamWith returns a team with some spots.
func teamWith(homes, picks, drops []int) api.Team {
	return api.Team{Homes: homes, Picks: picks, Drops: drops, Load: 1, Unload: 1, Queue: 2, Quota: 2, Window: 8}
}

// exampleConfig returns the example config of the document.
func exampleConfig() api.Config {
	return api.Config{
		Floor:  cellsOf("00.00", "00.00", "11.11", "11.11"),
		Slices: []uint8{1, 1, 0, 2, 2, 0},
		Teams:  []api.Team{teamWith([]int{0}, []int{5}, []int{4}), teamWith([]int{10}, []int{15}, []int{14})},
	}
}

// loneConfig returns a small config without an aisle, in which each spot but one is beside each other one: the pick has to be left again on the way from the home to it.
func loneConfig() api.Config {
	return api.Config{Floor: cellsOf("00", "00"), Slices: []uint8{0}, Teams: []api.Team{teamWith([]int{0}, []int{3}, []int{2})}}
}

// crowdedConfig returns a config of a tenant with all spots that it may have, on a floor with two rows of other cells.
func crowdedConfig() api.Config {
	m := api.Team{Homes: []int{11, 9, 8}, Picks: []int{10, 13, 12}, Drops: []int{14, 16, 15}, Load: 8, Unload: 7, Queue: 8, Quota: 16, Window: 64}
	return api.Config{
		Floor:  cellsOf("########", "00000000", "00.0.000", "0.0.#..0"),
		Slices: []uint8{1, 0, 1, 1, 0},
		Teams:  []api.Team{m},
		Start:  api.MaxTick,
	}
}

// threeConfig returns a config of three tenants with several spots each, of which each has to cross aisles.
func threeConfig() api.Config {
	return api.Config{
		Floor: cellsOf(
			"000..000",
			"0#0..0#0",
			"........",
			"111..111",
			"1#1..1#1",
			"........",
			"222..222",
			"2#2..2#2"),
		Slices: []uint8{1, 1, 1, 0, 0, 2, 2, 2, 0, 0, 3, 3, 3, 0},
		Teams: []api.Team{
			teamWith([]int{0, 8}, []int{7, 15}, []int{1, 6}),
			teamWith([]int{31, 24, 30}, []int{39, 26}, []int{32}),
			teamWith([]int{48}, []int{55, 61, 63}, []int{58, 50}),
		},
		Start: 7,
	}
}

// gapConfig returns a config with an absent team between two others.
func gapConfig() api.Config {
	c := exampleConfig()
	c.Floor = cellsOf("00.00", "00.00", "22.22", "22.22")
	c.Slices = []uint8{1, 0, 3, 3, 3}
	c.Teams = []api.Team{c.Teams[0], {}, c.Teams[1]}
	return c
}

// snakeConfig returns a config with one long way, on which each second cell is an aisle that is the tenant's once in a long period.
func snakeConfig() api.Config {
	return api.Config{
		Floor: cellsOf(
			"00.0.0.0",
			"#######.",
			"0.0.0.00",
			".#######",
			"0.0.0.0.",
			"#######0",
			"0.0.0.0.",
			"000#####"),
		Slices: []uint8{0, 0, 0, 0, 0, 0, 1, 0, 0, 0, 0, 0, 0, 0, 0, 0},
		Teams:  []api.Team{teamWith([]int{56}, []int{0}, []int{58})},
	}
}

// passConfig returns a config whose legs lead past places that can be entered at some ticks only, so that going back and waiting are as quick as each other.
func passConfig() api.Config {
	return api.Config{
		Floor:  cellsOf("0.00", "..0#", "0.00"),
		Slices: []uint8{1, 1, 0, 1, 0, 0, 0},
		Teams:  []api.Team{teamWith([]int{0}, []int{3, 8}, []int{11})},
	}
}

// splitConfig returns a config in which the legs of tenant 1 have no routes, and those of tenant 0 do.
func splitConfig() api.Config {
	c := exampleConfig()
	c.Slices = []uint8{1, 1}
	return c
}

// drawer returns a function that draws numbers below a limit, the same ones in each run.
func drawer(seed int) func(limit int) int {
	x := uint32(seed)*2654435761 + 1
	return func(limit int) int {
		x = x*1664525 + 1013904223
		return int(x>>16) % limit
	}
}

// drawnConfig returns a valid config; another seed leads to another one.
func drawnConfig(seed int) api.Config {
	draw := drawer(seed)
	c := api.Config{Floor: api.Floor{W: 5 + draw(4), H: 5 + draw(4)}, Start: uint64(draw(9)), Teams: make([]api.Team, 1+draw(3))}
	var present []uint8
	for t := range c.Teams {
		if draw(3) > 0 || t == 0 {
			present = append(present, uint8(t+1))
		}
	}
	for range c.Floor.W * c.Floor.H {
		cell := present[draw(len(present))]
		switch draw(8) {
		case 0:
			cell = api.CellWall
		case 1, 2, 3:
			cell = api.CellAisle
		}
		c.Floor.Cells = append(c.Floor.Cells, cell)
	}
	for range 1 + draw(16) {
		entry := present[draw(len(present))]
		if draw(3) == 0 {
			entry = 0
		}
		c.Slices = append(c.Slices, entry)
	}
	drawTeams(c, present, draw)
	return c
}

// drawTeams gives teams to the tenants of a config whose values are listed, each spot at a place of its own.
func drawTeams(c api.Config, present []uint8, draw func(limit int) int) {
	places := make([]int, len(c.Floor.Cells))
	for p := range places {
		q := draw(p + 1)
		places[p] = places[q]
		places[q] = p
	}
	for _, value := range present {
		spots := func(many int) []int {
			taken := slices.Clone(places[:many])
			places = places[many:]
			for _, p := range taken {
				c.Floor.Cells[p] = value
			}
			return taken
		}
		c.Teams[value-1] = api.Team{
			Homes: spots(1 + draw(2)), Picks: spots(1 + draw(2)), Drops: spots(1 + draw(2)),
			Load: 1 + draw(8), Unload: 1 + draw(8), Queue: 1 + draw(8), Quota: 1 + draw(16), Window: 1 + draw(64),
		}
	}
}

// smallConfigs returns valid configs that are few enough to try each leg of each tenant.
func smallConfigs() []api.Config {
	return []api.Config{
		exampleConfig(), loneConfig(), crowdedConfig(), gapConfig(), passConfig(), splitConfig(),
		withSlices(exampleConfig(), 0),
		withSlices(exampleConfig(), 2, 2, 0),
		withSlices(exampleConfig(), 1, 2),
		withSlices(exampleConfig(), 1, 1, 1, 2, 0, 2, 2, 2, 1, 0, 0, 0, 2, 1, 2, 1),
		withSlices(loneConfig(), 0, 1, 0),
	}
}

// largeConfigs returns valid configs of which only some legs are tried.
func largeConfigs() []api.Config {
	all := []api.Config{threeConfig(), snakeConfig()}
	for seed := range 30 {
		all = append(all, drawnConfig(seed))
	}
	return all
}

// trip is a leg of a tenant.
type trip struct {
	tenant int
	leg    api.Leg
}

// tripsOf returns legs of all present tenants of a valid config: all of them, or, of a large config, some.
func tripsOf(c api.Config, isLarge bool) []trip {
	var trips []trip
	for t, m := range c.Teams {
		if len(m.Homes) == 0 {
			continue
		}
		for _, g := range specLegs(m) {
			trips = append(trips, trip{t, g})
		}
		for from := range c.Floor.Cells {
			for to := range c.Floor.Cells {
				if specIsLeg(c, t, api.Leg{From: from, To: to}) && (!isLarge || (from*29+to*7)%61 == 0) {
					trips = append(trips, trip{t, api.Leg{From: from, To: to}})
				}
			}
		}
	}
	return trips
}

// eachTrip calls a function with legs of the tenants of valid configs.
func eachTrip(do func(c api.Config, tenant int, g api.Leg)) {
	for _, c := range smallConfigs() {
		for _, x := range tripsOf(c, false) {
			do(c, x.tenant, x.leg)
		}
	}
	for _, c := range largeConfigs() {
		for _, x := range tripsOf(c, true) {
			do(c, x.tenant, x.leg)
		}
	}
}

// ticksOf returns the ticks of the first period of a config, and some later ones, up to the last that may be given.
func ticksOf(c api.Config) []uint64 {
	var ticks []uint64
	for tick := range c.Slices {
		ticks = append(ticks, uint64(tick))
	}
	return append(ticks, uint64(len(c.Slices)), 1<<32+3, api.MaxTick-1, api.MaxTick, api.MaxTick+1, api.MaxLook-1, api.MaxLook)
}

// badConfig is a config that is not valid, and the error that config.Check returns for it.
type badConfig struct {
	what string
	c    api.Config
	e    api.Errno
}

// badConfigs returns configs that are not valid.
func badConfigs() []badConfig {
	example := exampleConfig()
	return []badConfig{
		{"nothing", api.Config{}, api.ErrFloor},
		{"a cell too few", changed(example, func(c *api.Config) { c.Floor.Cells = c.Floor.Cells[:19] }), api.ErrFloor},
		{"sides that wrap to 0", changed(example, func(c *api.Config) { c.Floor = api.Floor{W: 1 << 32, H: 1 << 32} }), api.ErrFloor},
		{"the cell 4", changed(example, func(c *api.Config) { c.Floor.Cells[2] = 4 }), api.ErrFloor},
		{"no slice table", withSlices(example), api.ErrSlices},
		{"17 entries", withSlices(example, make([]uint8, 17)...), api.ErrSlices},
		{"the entry 4", withSlices(example, 1, 4, 2), api.ErrSlices},
		{"no teams", changed(example, func(c *api.Config) { c.Teams = nil }), api.ErrTeam},
		{"four teams", changed(example, func(c *api.Config) { c.Teams = append(c.Teams, api.Team{}, api.Team{}) }), api.ErrTeam},
		{"a cell of a tenant without a team", changed(example, func(c *api.Config) { c.Floor.Cells[2] = 3 }), api.ErrTeam},
		{"an entry of a tenant without a team", withSlices(example, 1, 2, 3), api.ErrTeam},
		{"a spot of another tenant", changed(example, func(c *api.Config) { c.Teams[1].Picks[0] = 1 }), api.ErrTeam},
		{"a spot that is no place", changed(example, func(c *api.Config) { c.Teams[0].Picks[0] = -1 }), api.ErrTeam},
		{"an unsound config with an invalid team", changed(withSlices(example, 0), func(c *api.Config) { c.Teams[1].Load = 9 }), api.ErrTeam},
		{"Start beyond MaxTick", changed(example, func(c *api.Config) { c.Start = api.MaxTick + 1 }), api.ErrArg},
	}
}

// eachTenant calls a function with valid configs and each of their present tenants.
func eachTenant(do func(c api.Config, tenant int)) {
	for _, c := range slices.Concat(smallConfigs(), largeConfigs()) {
		for tenant, m := range c.Teams {
			if len(m.Homes) > 0 {
				do(c, tenant)
			}
		}
	}
}

package gateway_test

import (
	"slices"
	"testing"

	"dunnage/api"
	"dunnage/config"
	"dunnage/floor"
	"dunnage/route"
)

// floorOf returns a floor that is written as text.
func floorOf(text string) api.Floor {
	f, e := floor.Parse(text)
	if e != api.OK {
		panic("a floor of the tests is wrong: " + text)
	}
	return f
}

// teamWith returns a team with some spots.
func teamWith(homes, picks, drops []int) api.Team {
	return api.Team{Homes: homes, Picks: picks, Drops: drops, Load: 1, Unload: 1, Queue: 2, Quota: 2, Window: 8}
}

// exampleConfig returns the example config of the document.
func exampleConfig() api.Config {
	return api.Config{
		Floor:  floorOf("00.00\n00.00\n11.11\n11.11\n"),
		Slices: []uint8{1, 1, 0, 2, 2, 0},
		Teams:  []api.Team{teamWith([]int{0}, []int{5}, []int{4}), teamWith([]int{10}, []int{15}, []int{14})},
	}
}

// crowdConfig returns a config of three tenants, one of whom has all spots that it may have.
func crowdConfig() api.Config {
	m := api.Team{Homes: []int{24, 32, 33}, Picks: []int{31, 38, 39}, Drops: []int{26, 29, 34}, Load: 3, Unload: 2, Queue: 8, Quota: 16, Window: 4}
	return api.Config{
		Floor:  floorOf("000..000\n000..000\n........\n111..111\n111..111\n........\n222..222\n222..222\n"),
		Slices: []uint8{1, 1, 2, 2, 2, 2, 2, 2, 0, 2, 3, 3, 0},
		Teams:  []api.Team{teamWith([]int{0}, []int{7}, []int{1}), m, teamWith([]int{48}, []int{55}, []int{58})},
		Start:  9,
	}
}

// crossConfig returns a config whose tenants have two robots each, and cross one aisle on the same ways.
func crossConfig() api.Config {
	one := api.Team{Homes: []int{0, 7}, Picks: []int{5}, Drops: []int{12}, Load: 2, Unload: 1, Queue: 4, Quota: 8, Window: 4}
	two := api.Team{Homes: []int{21, 28}, Picks: []int{27}, Drops: []int{33}, Load: 1, Unload: 3, Queue: 4, Quota: 8, Window: 4}
	return api.Config{
		Floor:  floorOf("00...00\n00...00\n.......\n11...11\n11...11\n"),
		Slices: []uint8{1, 1, 1, 2, 2, 2, 0},
		Teams:  []api.Team{one, two},
		Start:  1 << 40,
	}
}

// islandConfig returns a config of one tenant with a private cell between aisles, where robots can stall on their ways.
func islandConfig() api.Config {
	m := api.Team{Homes: []int{0, 16}, Picks: []int{8}, Drops: []int{7, 15, 23}, Load: 1, Unload: 1, Queue: 4, Quota: 16, Window: 8}
	return api.Config{
		Floor:  floorOf("00.0..00\n00.#.#00\n00.#.#00\n"),
		Slices: []uint8{1, 1, 1, 0, 1, 1, 1, 0, 0},
		Teams:  []api.Team{m},
	}
}

// gapConfig returns a config with an absent team between two others.
func gapConfig() api.Config {
	c := exampleConfig()
	c.Floor = floorOf("00.00\n00.00\n22.22\n22.22\n")
	c.Slices = []uint8{1, 1, 0, 3, 3}
	c.Teams = []api.Team{c.Teams[0], {}, c.Teams[1]}
	c.Start = 7
	return c
}

// stuckConfig returns a config that is not sound: the aisle is never tenant 0's, whose drop is beyond it.
func stuckConfig() api.Config {
	c := exampleConfig()
	c.Slices = []uint8{2, 2, 0}
	return c
}

// soundSeeds are seeds of drawn configs that are sound: three of two present tenants, and two of three, which are rare.
var soundSeeds = []int{19, 247, 575, 326448, 4324018}

// soundConfigs returns sound configs of all kinds, of which the last ones are drawn.
func soundConfigs() []api.Config {
	all := []api.Config{exampleConfig(), crowdConfig(), crossConfig(), islandConfig(), gapConfig()}
	for _, seed := range soundSeeds {
		all = append(all, drawnConfig(seed))
	}
	return all
}

// drawnConfig returns a config of two or three teams, one of which may be absent; another seed leads to another one.
func drawnConfig(seed int) api.Config {
	draw := drawer(seed)
	c := api.Config{Floor: api.Floor{W: 6 + draw(3), H: 5 + draw(4)}, Start: uint64(draw(90))}
	teams := 2 + draw(2)
	absent := draw(9)
	owners := []uint8{}
	for t := range teams {
		if t != absent {
			owners = append(owners, uint8(t+1))
		}
	}
	for range c.Floor.W * c.Floor.H {
		cell := owners[draw(len(owners))]
		switch draw(10) {
		case 0:
			cell = api.CellWall
		case 1, 2, 3, 4:
			cell = api.CellAisle
		}
		c.Floor.Cells = append(c.Floor.Cells, cell)
	}
	for len(c.Slices) < 12 {
		c.Slices = append(c.Slices, slices.Repeat([]uint8{owners[draw(len(owners))]}, 1+draw(4))...)
		c.Slices = append(c.Slices, make([]uint8, draw(2))...)
	}
	free := drawnOrder(draw, len(c.Floor.Cells))
	for t := range teams {
		c.Teams = append(c.Teams, api.Team{})
		if t == absent {
			continue
		}
		spots := func() []int {
			taken := slices.Clone(free[:1+draw(2)])
			free = free[len(taken):]
			for _, p := range taken {
				c.Floor.Cells[p] = uint8(t + 1)
			}
			return taken
		}
		c.Teams[t] = api.Team{
			Homes: spots(), Picks: spots(), Drops: spots(),
			Load: 1 + draw(4), Unload: 1 + draw(4), Queue: 2 + draw(7), Quota: 4 + draw(13), Window: 1 + draw(9),
		}
	}
	return c
}

// drawnOrder returns the numbers from 0 up to a limit, in a drawn order.
func drawnOrder(draw func(limit int) int, limit int) []int {
	numbers := make([]int, limit)
	for i := range numbers {
		j := draw(i + 1)
		numbers[i] = numbers[j]
		numbers[j] = i
	}
	return numbers
}

// badConfig is a config that is not valid, and the error that config.Check returns for it.
type badConfig struct {
	what string
	c    api.Config
	e    api.Errno
}

// badConfigs returns configs that are not valid.
func badConfigs() []badConfig {
	all := []badConfig{{"nothing", api.Config{}, api.ErrFloor}}
	add := func(what string, e api.Errno, change func(c *api.Config)) {
		c := exampleConfig()
		change(&c)
		all = append(all, badConfig{what, c, e})
	}
	add("a cell too many", api.ErrFloor, func(c *api.Config) { c.Floor.Cells = append(c.Floor.Cells, 0) })
	add("the cell 254", api.ErrFloor, func(c *api.Config) { c.Floor.Cells[7] = 254 })
	add("a slice table that is too long", api.ErrSlices, func(c *api.Config) { c.Slices = make([]uint8, 17) })
	add("no teams", api.ErrTeam, func(c *api.Config) { c.Teams = nil })
	add("cells of an absent tenant", api.ErrTeam, func(c *api.Config) { c.Teams[1] = api.Team{} })
	add("a home that is an aisle", api.ErrTeam, func(c *api.Config) { c.Teams[0].Homes[0] = 2 })
	add("a Start that is too late", api.ErrArg, func(c *api.Config) { c.Start = api.MaxTick + 1 })
	return all
}

// The configs of these tests are what they have to be.
func TestConfigs(t *testing.T) {
	gaps, threes := 0, 0
	for _, c := range soundConfigs() {
		wantErrno(t, "Sound", route.Sound(c), api.OK)
		tenants, e := config.Tenants(c)
		wantErrno(t, "Tenants", e, api.OK)
		if len(tenants) < len(c.Teams) {
			gaps++
		}
		if len(tenants) == 3 {
			threes++
		}
	}
	if gaps < 2 || threes < 3 {
		t.Errorf("%d configs have absent teams, %d have three tenants", gaps, threes)
	}
	wantErrno(t, "Check", config.Check(stuckConfig()), api.OK)
	wantErrno(t, "Sound", route.Sound(stuckConfig()), api.ErrRoute)
	for _, bad := range badConfigs() {
		wantErrno(t, bad.what, config.Check(bad.c), bad.e)
	}
}

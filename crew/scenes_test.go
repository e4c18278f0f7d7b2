package crew_test

import (
	"slices"
	"sync"
	"testing"

	"dunnage/api"
	"dunnage/config"
	"dunnage/floor"
	"dunnage/route"
)

// scene is a valid config, and a tenant who is present in it.
type scene struct {
	c api.Config
	t int
}

// floorOf returns a floor that is written as text.
func floorOf(text string) api.Floor {
	f, e := floor.Parse(text)
	if e != api.OK {
		panic("a floor of the tests is wrong: " + text)
	}
	return f
}

// teamWith returns a team with some spots.
func teamWith(homes, picks, drops []int) api.Team {
	return api.Team{Homes: homes, Picks: picks, Drops: drops, Load: 1, Unload: 1, Queue: 2, Quota: 2, Window: 8}
}

// exampleConfig returns the example config of the document.
func exampleConfig() api.Config {
	return api.Config{
		Floor:  floorOf("00.00\n00.00\n11.11\n11.11\n"),
		Slices: []uint8{1, 1, 0, 2, 2, 0},
		Teams:  []api.Team{teamWith([]int{0}, []int{5}, []int{4}), teamWith([]int{10}, []int{15}, []int{14})},
	}
}

// exampleScene returns the tenant 0 of the example config.
func exampleScene() scene { return scene{exampleConfig(), 0} }

// pairScene returns a scene of two robots without aisles, which have to share a pick and a drop.
func pairScene() scene {
	m := api.Team{Homes: []int{0, 4}, Picks: []int{3}, Drops: []int{7}, Load: 2, Unload: 3, Queue: 3, Quota: 4, Window: 5}
	return scene{api.Config{Floor: floorOf("0000\n0000\n"), Slices: []uint8{0, 0, 0}, Teams: []api.Team{m}}, 0}
}

// crowdScene returns a scene of a tenant with all spots that it may have, and two others.
func crowdScene() scene {
	m := api.Team{Homes: []int{24, 32, 33}, Picks: []int{31, 38, 39}, Drops: []int{26, 29, 34}, Load: 3, Unload: 2, Queue: 8, Quota: 16, Window: 4}
	return scene{api.Config{
		Floor:  floorOf("000..000\n000..000\n........\n111..111\n111..111\n........\n222..222\n222..222\n"),
		Slices: []uint8{1, 1, 2, 2, 2, 2, 2, 2, 0, 2, 3, 3, 0},
		Teams:  []api.Team{teamWith([]int{0}, []int{7}, []int{1}), m, teamWith([]int{48}, []int{55}, []int{58})},
		Start:  9,
	}, 1}
}

// funnelScene returns a scene of three robots that have to share one pick and one drop beyond a wide aisle.
func funnelScene() scene {
	m := api.Team{Homes: []int{0, 8, 16}, Picks: []int{7}, Drops: []int{23}, Load: 8, Unload: 8, Queue: 8, Quota: 16, Window: 64}
	return scene{api.Config{Floor: floorOf("00....00\n00....00\n00....00\n"), Slices: []uint8{1, 1, 1, 1, 1, 1, 0, 0}, Teams: []api.Team{m}}, 0}
}

// gapScene returns a scene with an absent team between two others.
func gapScene() scene {
	c := exampleConfig()
	c.Floor = floorOf("00.00\n00.00\n22.22\n22.22\n")
	c.Slices = []uint8{1, 0, 3, 3, 3}
	c.Teams = []api.Team{c.Teams[0], {}, c.Teams[1]}
	return scene{c, 2}
}

// narrowScene returns a scene with aisles out of which there is no way at some ticks, and a private cell between aisles, where a robot can stall.
func narrowScene() scene {
	m := api.Team{Homes: []int{0, 16}, Picks: []int{8}, Drops: []int{7, 15, 23}, Load: 1, Unload: 1, Queue: 4, Quota: 16, Window: 8}
	return scene{api.Config{Floor: floorOf("00.0..00\n00.#.#00\n00.#.#00\n"), Slices: []uint8{1, 1, 1, 0, 1, 1, 1, 0, 0}, Teams: []api.Team{m}}, 0}
}

// splitScene returns a scene that is not sound: a pick and a drop are where no robot gets.
func splitScene() scene {
	m := api.Team{Homes: []int{0, 16, 17}, Picks: []int{2, 7}, Drops: []int{18, 6}, Load: 1, Unload: 2, Queue: 5, Quota: 16, Window: 3}
	return scene{api.Config{Floor: floorOf("000#.#00\n000.#000\n000.#000\n"), Slices: []uint8{1}, Teams: []api.Team{m}}, 0}
}

// stuckScene returns a scene that is not sound: no drop can be reached from the pick, since the aisle is never the tenant's.
func stuckScene() scene {
	c := exampleConfig()
	c.Slices = []uint8{2, 2, 0}
	return scene{c, 0}
}

// scenes returns scenes of all kinds.
func scenes() []scene {
	return []scene{
		exampleScene(), {exampleConfig(), 1}, pairScene(), crowdScene(), funnelScene(), gapScene(), narrowScene(), splitScene(), stuckScene(),
	}
}

// allScenes returns scenes of all kinds, and drawn ones, the same in each call.
func allScenes() []scene { return slices.Concat(scenes(), drawnScenes()) }

// drawnScenes returns drawn scenes, of which the most are sound.
var drawnScenes = sync.OnceValue(func() []scene {
	var all []scene
	unsound := 0
	for seed := 0; len(all) < 16; seed++ {
		x := drawnScene(seed)
		if route.Sound(x.c) != api.OK {
			unsound++
			if unsound > 5 {
				continue
			}
		}
		all = append(all, x)
	}
	return all
})

// drawnScene returns a scene; another seed leads to another one.
func drawnScene(seed int) scene {
	draw := drawer(seed)
	c := api.Config{Floor: api.Floor{W: 4 + draw(5), H: 4 + draw(5)}, Start: uint64(draw(9))}
	tenants := 1 + draw(2)
	for range c.Floor.W * c.Floor.H {
		cell := uint8(1 + draw(tenants))
		switch draw(10) {
		case 0:
			cell = api.CellWall
		case 1, 2, 3, 4:
			cell = api.CellAisle
		}
		c.Floor.Cells = append(c.Floor.Cells, cell)
	}
	for range 1 + draw(14) {
		c.Slices = append(c.Slices, uint8(draw(3*tenants+1)+2)/3)
	}
	free := drawnOrder(draw, len(c.Floor.Cells))
	for t := range tenants {
		spots := func() []int {
			taken := slices.Clone(free[:1+draw(2)])
			free = free[len(taken):]
			for _, p := range taken {
				c.Floor.Cells[p] = uint8(t + 1)
			}
			return taken
		}
		c.Teams = append(c.Teams, api.Team{
			Homes: spots(), Picks: spots(), Drops: spots(),
			Load: 1 + draw(8), Unload: 1 + draw(8), Queue: 1 + draw(8), Quota: 1 + draw(16), Window: 1 + draw(64),
		})
	}
	return scene{c, draw(tenants)}
}

// drawnOrder returns the numbers from 0 up to a limit, in a drawn order.
func drawnOrder(draw func(limit int) int, limit int) []int {
	numbers := make([]int, limit)
	for i := range numbers {
		j := draw(i + 1)
		numbers[i] = numbers[j]
		numbers[j] = i
	}
	return numbers
}

// badConfig is a config that is not valid, and the error that config.Check returns for it.
type badConfig struct {
	what string
	c    api.Config
	e    api.Errno
}

// badConfigs returns configs that are not valid.
func badConfigs() []badConfig {
	all := []badConfig{{"nothing", api.Config{}, api.ErrFloor}}
	add := func(what string, e api.Errno, change func(c *api.Config)) {
		c := exampleConfig()
		change(&c)
		all = append(all, badConfig{what, c, e})
	}
	add("a cell too few", api.ErrFloor, func(c *api.Config) { c.Floor.Cells = c.Floor.Cells[:19] })
	add("the cell 4", api.ErrFloor, func(c *api.Config) { c.Floor.Cells[2] = 4 })
	add("no slice table", api.ErrSlices, func(c *api.Config) { c.Slices = nil })
	add("the entry 4", api.ErrSlices, func(c *api.Config) { c.Slices[1] = 4 })
	add("no teams", api.ErrTeam, func(c *api.Config) { c.Teams = nil })
	add("four teams", api.ErrTeam, func(c *api.Config) { c.Teams = append(c.Teams, api.Team{}, api.Team{}) })
	add("a spot of another tenant", api.ErrTeam, func(c *api.Config) { c.Teams[1].Picks[0] = 1 })
	add("an invalid team of another tenant", api.ErrTeam, func(c *api.Config) { c.Teams[1].Load = 9 })
	add("Start beyond MaxTick", api.ErrArg, func(c *api.Config) { c.Start = api.MaxTick + 1 })
	return all
}

// The scenes of these tests are what they have to be.
func TestScenes(t *testing.T) {
	sound := 0
	for _, x := range allScenes() {
		wantErrno(t, "Check", config.Check(x.c), api.OK)
		is, e := config.Present(x.c, x.t)
		want(t, "Present", is, e, true, api.OK)
		if route.Sound(x.c) == api.OK {
			sound++
		}
	}
	if many := len(allScenes()); sound < 15 || sound > many-7 {
		t.Errorf("%d of %d scenes are sound", sound, many)
	}
	for _, x := range []scene{exampleScene(), pairScene(), crowdScene(), funnelScene(), gapScene(), narrowScene()} {
		wantErrno(t, "Sound", route.Sound(x.c), api.OK)
	}
	for _, x := range []scene{splitScene(), stuckScene()} {
		wantErrno(t, "Sound", route.Sound(x.c), api.ErrRoute)
	}
	for _, bad := range badConfigs() {
		wantErrno(t, bad.what, config.Check(bad.c), bad.e)
	}
}

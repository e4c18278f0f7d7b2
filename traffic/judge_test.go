package traffic_test

import (
	"slices"
	"testing"

	"dunnage/api"
	"dunnage/traffic"
)

// robots is the robots of crowdConfig whose positions the tests of Judge give, in order.
var robots = []api.Position{{Tenant: 0, Robot: 0}, {Tenant: 1, Robot: 0}, {Tenant: 1, Robot: 1}, {Tenant: 1, Robot: 2}, {Tenant: 2, Robot: 0}}

// at returns the positions of some robots, from the first one on, at some places.
func at(robots []api.Position, places ...int) []api.Position {
	l := slices.Clone(robots[:len(places)])
	for i, p := range places {
		l[i].Place = p
	}
	return l
}

// wantBreaches checks what Judge returns.
func wantBreaches(t *testing.T, what string, c api.Config, before, after []api.Position, tick uint64, wanted ...api.Breach) {
	t.Helper()
	l, e := traffic.Judge(c, before, after, tick)
	wantList(t, "Judge of "+what, l, e, wanted, api.OK)
	l, e = specJudge(c, before, after, tick)
	wantList(t, "the definition of "+what, l, e, wanted, api.OK)
}

// P9.6: moves that break no rule.
func TestJudgeOfGoodMoves(t *testing.T) {
	c := crowdConfig()
	wantBreaches(t, "no robots", c, nil, nil, 7)
	wantBreaches(t, "no robots", c, []api.Position{}, nil, 7)
	wantBreaches(t, "robots that stay", c, at(robots, 0, 24, 32, 33, 48), at(robots, 0, 24, 32, 33, 48), 7)
	// The tenant 1 has the aisles at the tick 15.
	wantBreaches(t, "robots that move", c, at(robots, 9, 25, 32, 36, 49), at(robots, 1, 17, 33, 28, 57), 14)
	wantBreaches(t, "robots that follow each other", c, at(robots, 0, 32, 33, 34, 48), at(robots, 0, 33, 34, 26, 49), 14)
	wantBreaches(t, "robots that go round", c, at(robots, 0, 32, 33, 25, 48), at(robots, 8, 33, 25, 24, 56), 14)
	wantBreaches(t, "some of the robots", c, at(robots[2:], 33), at(robots[2:], 34), 14)
	wantBreaches(t, "a move to the last tick", c, at(robots, 0), at(robots, 8), api.MaxTick-1)
}

// breach returns a breach of one of the robots.
func breach(kind uint8, i, place int) api.Breach {
	return api.Breach{Kind: kind, Tenant: robots[i].Tenant, Robot: robots[i].Robot, Place: place}
}

// P9.6: BreachCell, of each robot after the first one at a place.
func TestBreachCell(t *testing.T) {
	c := crowdConfig()
	wantBreaches(t, "one that enters a cell", c, at(robots, 0, 24, 26, 33, 48), at(robots, 0, 25, 25, 33, 48), 7, breach(api.BreachCell, 2, 25))
	wantBreaches(t, "two in a cell from the start", c, at(robots, 0, 24, 24), at(robots, 0, 24, 24), 7, breach(api.BreachCell, 2, 24))
	wantBreaches(t, "three in a cell", c, at(robots, 0, 24, 32, 26), at(robots, 0, 25, 33, 25), 7, breach(api.BreachCell, 3, 25))
	wantBreaches(t, "three in a cell", c, at(robots, 0, 24, 33, 26), at(robots, 0, 25, 25, 25), 7, breach(api.BreachCell, 2, 25), breach(api.BreachCell, 3, 25))
	wantBreaches(t, "two that leave a cell", c, at(robots, 0, 25, 25), at(robots, 0, 24, 26), 7)
	wantBreaches(t, "two that are not neighbours in the list", c, at(robots, 0, 24, 39, 26), at(robots, 0, 25, 39, 25), 7, breach(api.BreachCell, 3, 25))
}

// P9.6: BreachExchange, of two robots that change places, near or far.
func TestBreachExchange(t *testing.T) {
	c := crowdConfig()
	wantBreaches(t, "two that exchange", c, at(robots, 0, 24, 25), at(robots, 0, 25, 24), 7, breach(api.BreachExchange, 2, 24))
	wantBreaches(t, "two that are not neighbours in the list", c, at(robots, 0, 24, 39, 25), at(robots, 0, 25, 39, 24), 7, breach(api.BreachExchange, 3, 24))
	wantBreaches(t, "two that exchange from afar", c, at(robots, 0, 24, 39), at(robots, 0, 39, 24), 7,
		breach(api.BreachJump, 1, 39), breach(api.BreachExchange, 2, 24), breach(api.BreachJump, 2, 24))
	// Two that stay at one place do not exchange two places.
	wantBreaches(t, "two that stay in a cell", c, at(robots, 0, 25, 25), at(robots, 0, 25, 25), 7, breach(api.BreachCell, 2, 25))
	// One robot has one breach of a kind, with however many others.
	wantBreaches(t, "one that exchanges with two", c, at(robots, 0, 24, 24, 25), at(robots, 0, 25, 25, 24), 7,
		breach(api.BreachCell, 2, 25), breach(api.BreachExchange, 3, 24))
	wantBreaches(t, "half an exchange", c, at(robots, 0, 24, 25), at(robots, 0, 25, 26), 7)
	wantBreaches(t, "half an exchange", c, at(robots, 0, 24, 25), at(robots, 0, 32, 24), 7)
}

// P9.6: BreachJump, of each move that is neither none nor one step.
func TestBreachJump(t *testing.T) {
	c := crowdConfig()
	f := c.Floor
	for p := range f.Cells {
		for q := range f.Cells {
			l, e := traffic.Judge(c, at(robots, p), at(robots, q), 7)
			isJump := slices.Contains(l, breach(api.BreachJump, 0, q))
			if wanted := p != q && !specIsStep(f, p, q); e != api.OK || isJump != wanted {
				t.Errorf("Judge of a move from %d to %d: %v, %d", p, q, l, e)
			}
		}
	}
	// The last place of a row and the first one of the next are far from each other.
	wantBreaches(t, "a move around the edge", c, at(robots, 7), at(robots, 8), 7, breach(api.BreachJump, 0, 8))
	wantBreaches(t, "a move across", c, at(robots, 0), at(robots, 9), 7, breach(api.BreachJump, 0, 9))
}

// P9.6: BreachForeign, of each robot where its tenant is not allowed at the tick that follows.
func TestBreachForeign(t *testing.T) {
	c := crowdConfig()
	c.Floor.Cells[10] = api.CellWall
	for i, x := range robots {
		for p := range c.Floor.Cells {
			for tick := range uint64(26) {
				l, e := traffic.Judge(c, at(robots[i:], p), at(robots[i:], p), tick)
				var wanted []api.Breach
				if !specAllowed(c, x.Tenant, p, tick+1) {
					wanted = []api.Breach{breach(api.BreachForeign, i, p)}
				}
				wantList(t, "Judge of a robot that stays", l, e, wanted, api.OK)
			}
		}
	}
	// The tenant 1 has the aisles at the ticks 15 to 20.
	wantBreaches(t, "an aisle before the slice", c, at(robots, 0, 25), at(robots, 0, 17), 13, breach(api.BreachForeign, 1, 17))
	wantBreaches(t, "an aisle as the slice begins", c, at(robots, 0, 25), at(robots, 0, 17), 14)
	wantBreaches(t, "an aisle as the slice ends", c, at(robots, 0, 25), at(robots, 0, 17), 20, breach(api.BreachForeign, 1, 17))
	wantBreaches(t, "one that leaves a foreign cell", c, at(robots, 0, 17), at(robots, 0, 25), 20)
	wantBreaches(t, "a wall", c, at(robots, 9), at(robots, 10), 20, breach(api.BreachForeign, 0, 10))
}

// P9.6: all breaches of one robot are in the order of their kinds, and those of robots in the order of these.
func TestBreachesInOrder(t *testing.T) {
	c := crowdConfig()
	wantBreaches(t, "all that is wrong", c, at(robots, 63, 48, 24, 24, 0), at(robots, 48, 63, 48, 48, 63), 20,
		breach(api.BreachJump, 0, 48), breach(api.BreachForeign, 0, 48),
		breach(api.BreachExchange, 1, 63), breach(api.BreachJump, 1, 63), breach(api.BreachForeign, 1, 63),
		breach(api.BreachCell, 2, 48), breach(api.BreachJump, 2, 48), breach(api.BreachForeign, 2, 48),
		breach(api.BreachCell, 3, 48), breach(api.BreachJump, 3, 48), breach(api.BreachForeign, 3, 48),
		breach(api.BreachCell, 4, 63), breach(api.BreachJump, 4, 63))
	// A robot with all four: it exchanges with the second one, where the first one is after.
	wantBreaches(t, "a robot with all breaches", c, at(robots, 2, 24, 2), at(robots, 24, 2, 24), 20,
		breach(api.BreachJump, 0, 24), breach(api.BreachForeign, 0, 24),
		breach(api.BreachExchange, 1, 2), breach(api.BreachJump, 1, 2), breach(api.BreachForeign, 1, 2),
		breach(api.BreachCell, 2, 24), breach(api.BreachExchange, 2, 24), breach(api.BreachJump, 2, 24))
	l, e := traffic.Judge(exampleConfig(), at(robots, 0), at(robots, 2), 1)
	wantList(t, "the chapter's example", l, e, []api.Breach{breach(api.BreachJump, 0, 2), breach(api.BreachForeign, 0, 2)}, api.OK)
	// At the tick 6 the aisle is tenant 0's, and the place 2 is far all the same.
	wantBreaches(t, "the example in a slice", exampleConfig(), at(robots, 0), at(robots, 2), 5, breach(api.BreachJump, 0, 2))
}

// P9.6: Judge returns config.Check's error, ErrArg, and ErrBad, in this order.
func TestJudgeErrors(t *testing.T) {
	c := crowdConfig()
	good := at(robots, 0, 24, 32, 33, 48)
	wantError := func(what string, c api.Config, before, after []api.Position, tick uint64, wanted api.Errno) {
		t.Helper()
		l, e := traffic.Judge(c, before, after, tick)
		wantList(t, "Judge of "+what, l, e, nil, wanted)
		_, e = specJudge(c, before, after, tick)
		wantErrno(t, "the definition of "+what, e, wanted)
	}
	late := append([]uint64{api.MaxTick, api.MaxTick + 1, api.MaxLook}, lateTicks...)
	for _, bad := range badConfigs() {
		wantError(bad.what, bad.c, nil, nil, 7, bad.e)
		wantError(bad.what+", and all else", bad.c, good, good[1:], api.MaxTick, bad.e)
	}
	for _, tick := range late {
		wantError("a late tick", c, good, good, tick, api.ErrArg)
		wantError("a late tick, and bad lists", c, good, good[1:], tick, api.ErrArg)
	}
	for _, bad := range badPositions() {
		wantError(bad.what+" before and after", c, bad.l, bad.l, 7, api.ErrBad)
		wantError(bad.what+" before", c, bad.l, good, 7, api.ErrBad)
		wantError(bad.what+" after", c, good, bad.l, 7, api.ErrBad)
	}
	for _, p := range []int{20, 21, 63} {
		small := at(robots, 0, p)
		wantError("a place beyond a small floor", exampleConfig(), small, small, 7, api.ErrBad)
	}
	absent := []api.Position{{Tenant: 1, Place: 0}}
	wantError("an absent tenant", gapConfig(), absent, absent, 7, api.ErrBad)
	for _, other := range [][]api.Position{nil, good[1:], good[:4], slices.Delete(slices.Clone(good), 2, 3), at(robots[1:], 24), at(robots[2:], 24)} {
		wantError("other robots after", c, good, other, 7, api.ErrBad)
		wantError("other robots before", c, other, good, 7, api.ErrBad)
	}
	wantError("another robot of the tenant", c, at(robots[1:], 24), at(robots[2:], 24), 7, api.ErrBad)
	wantError("a robot of another tenant", c, at(robots, 24), at(robots[1:], 24), 7, api.ErrBad)
}

// badList is a list of positions that is not right in crowdConfig.
type badList struct {
	what string
	l    []api.Position
}

// badPositions returns lists of positions that are not right in crowdConfig, each for one reason.
func badPositions() []badList {
	var all []badList
	add := func(what string, change func(l []api.Position) []api.Position) {
		all = append(all, badList{what, change(at(robots, 0, 24, 32, 33, 48))})
	}
	for i := range robots {
		for _, n := range append([]int{-1, 3, 4}, hugeNumbers...) {
			add("a robot without a home", func(l []api.Position) []api.Position { l[i].Robot = n; return l })
			add("no tenant", func(l []api.Position) []api.Position { l[i].Tenant = n; return l })
		}
		for _, n := range append([]int{-1, 64, 65}, hugeNumbers...) {
			add("no place", func(l []api.Position) []api.Position { l[i].Place = n; return l })
		}
		add("a robot twice", func(l []api.Position) []api.Position { return slices.Insert(l, i, l[i]) })
		add("a robot twice, at two places", func(l []api.Position) []api.Position {
			l = slices.Insert(l, i, l[i])
			l[i].Place = 63
			return l
		})
		add("very many robots", func(l []api.Position) []api.Position { return slices.Repeat(l[i:i+1], 1<<16) })
		if i > 0 {
			add("robots in another order", func(l []api.Position) []api.Position { l[i-1], l[i] = l[i], l[i-1]; return l })
		}
	}
	add("a robot of tenant 0 that only tenant 1 has", func(l []api.Position) []api.Position { return slices.Insert(l, 1, api.Position{Robot: 1}) })
	add("the last one first", func(l []api.Position) []api.Position { return append(l[4:5:5], l[:4]...) })
	return all
}

// P9.6: Judge of drawn positions, of which many meet.
func TestJudgeOfDrawnMoves(t *testing.T) {
	kinds := map[uint8]int{}
	for i, c := range append(soundConfigs(), stuckConfig()) {
		draw := drawer(i)
		for range 600 {
			var before, after []api.Position
			near := draw(len(c.Floor.Cells))
			for tenant, m := range c.Teams {
				for n := range m.Homes {
					x := api.Position{Tenant: tenant, Robot: n, Place: (near + draw(3)) % len(c.Floor.Cells)}
					before = append(before, x)
					x.Place = (near + draw(3)) % len(c.Floor.Cells)
					after = append(after, x)
				}
			}
			tick := c.Start + uint64(draw(20))
			l, e := traffic.Judge(c, before, after, tick)
			wanted, wantE := specJudge(c, before, after, tick)
			wantList(t, "Judge", l, e, wanted, wantE)
			for _, x := range l {
				kinds[x.Kind]++
			}
		}
	}
	for _, kind := range []uint8{api.BreachCell, api.BreachExchange, api.BreachJump, api.BreachForeign} {
		if kinds[kind] < 100 {
			t.Errorf("%d breaches are of the kind %d", kinds[kind], kind)
		}
	}
}

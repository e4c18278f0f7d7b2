package traffic

import (
	"cmp"
	"slices"

	"dunnage/api"
	"dunnage/config"
	"dunnage/floor"
	"dunnage/route"
)

// Judge returns how robots break the rules of the floor from a tick to the next.
func Judge(c api.Config, before, after []api.Position, tick uint64) ([]api.Breach, api.Errno) {
	if e := config.Check(c); e != api.OK {
		return nil, e
	}
	if tick >= api.MaxTick {
		return nil, api.ErrArg
	}
	if !areRight(c, before) || !areRight(c, after) || !slices.EqualFunc(before, after, isSameRobot) {
		return nil, api.ErrBad
	}
	j := judge{c: c, next: tick + 1}
	for i, x := range after {
		j.moves = append(j.moves, move{x, before[i].Place})
	}
	return j.breaches(), api.OK
}

// move is what a robot does from a tick to the next: its position after it, and the place where it was before.
type move struct {
	api.Position
	from int
}

// judge has the moves of all robots, and the tick at which they have been made.
type judge struct {
	c     api.Config
	next  uint64
	moves []move
}

// rule is a rule of the floor: the kind of its breach, and whether the move n breaks it.
type rule struct {
	kind     uint8
	isBroken func(n int) bool
}

// breaches returns the breaches of all robots.
func (j judge) breaches() []api.Breach {
	rules := []rule{
		{api.BreachCell, j.entersTaken},
		{api.BreachExchange, j.exchanges},
		{api.BreachJump, j.jumps},
		{api.BreachForeign, j.trespasses},
	}
	var list []api.Breach
	for n, m := range j.moves {
		for _, r := range rules {
			if r.isBroken(n) {
				list = append(list, api.Breach{Kind: r.kind, Tenant: m.Tenant, Robot: m.Robot, Place: m.Place})
			}
		}
	}
	return list
}

// entersTaken reports whether a move ends where an earlier one ends.
func (j judge) entersTaken(n int) bool {
	m := j.moves[n]
	return slices.ContainsFunc(j.moves[:n], func(x move) bool { return x.Place == m.Place })
}

// exchanges reports whether a move and an earlier one exchange two places.
func (j judge) exchanges(n int) bool {
	m := j.moves[n]
	return slices.ContainsFunc(j.moves[:n], func(x move) bool {
		return x.Place == m.from && m.Place == x.from && x.from != m.from
	})
}

// jumps reports whether a move leads further than one step.
func (j judge) jumps(n int) bool {
	m := j.moves[n]
	isStep, e := floor.Adjacent(j.c.Floor.W, j.c.Floor.H, m.from, m.Place)
	return m.Place != m.from && (!isStep || e != api.OK)
}

// trespasses reports whether a move ends where its tenant is not allowed.
func (j judge) trespasses(n int) bool {
	m := j.moves[n]
	is, e := route.Allowed(j.c, m.Tenant, m.Place, j.next)
	return !is || e != api.OK
}

// areRight reports whether a list of positions is right for a valid config.
func areRight(c api.Config, l []api.Position) bool {
	for i, x := range l {
		isInOrder := i == 0 || compareRobots(l[i-1], x) < 0
		if !isInOrder || !isIndex(x.Tenant, len(c.Teams)) || !isIndex(x.Robot, len(c.Teams[x.Tenant].Homes)) || !isIndex(x.Place, len(c.Floor.Cells)) {
			return false
		}
	}
	return true
}

// compareRobots compares the robots of two positions by their tenants, and those of one tenant by their numbers.
func compareRobots(x, y api.Position) int {
	return cmp.Or(cmp.Compare(x.Tenant, y.Tenant), cmp.Compare(x.Robot, y.Robot))
}

// isSameRobot reports whether two positions are of one robot.
func isSameRobot(x, y api.Position) bool { return compareRobots(x, y) == 0 }

package crew

import (
	"slices"

	"dunnage/api"
	"dunnage/config"
	"dunnage/orders"
	"dunnage/route"
)

// nobody is the Mover of a crew of which no robot is on a leg.
const nobody = -1

// shift is the working form of a valid crew at a tick, with the config and the tenant whose it is, and the orders that were done.
type shift struct {
	c      api.Config
	t      int
	team   api.Team
	tick   uint64
	robots []*robot
	book   api.Book
	mover  int
	done   []int
}

// teamOf returns the team of a tenant: config.Check's error, and ErrArg unless the tenant is present.
func teamOf(c api.Config, t int) (api.Team, api.Errno) {
	present, e := config.Present(c, t)
	if e != api.OK {
		return api.Team{}, e
	}
	if !present {
		return api.Team{}, api.ErrArg
	}
	return c.Teams[t], api.OK
}

// shiftOf returns the working form of a crew, in memory of its own: Check's error.
func shiftOf(c api.Config, t int, w api.Crew, tick uint64) (*shift, api.Errno) {
	m, e := teamOf(c, t)
	if e != api.OK {
		return nil, e
	}
	if tick > api.MaxTick {
		return nil, api.ErrArg
	}
	if len(w.Robots) != len(m.Homes) || orders.CheckBook(m, w.Book) != api.OK {
		return nil, api.ErrBad
	}
	s := &shift{c: c, t: t, team: m, tick: tick, book: w.Book, mover: w.Mover}
	s.book.Orders, s.book.Queue = slices.Clone(w.Book.Orders), slices.Clone(w.Book.Queue)
	for n, r := range w.Robots {
		s.robots = append(s.robots, &robot{r, n})
	}
	if !s.isValid() {
		return nil, api.ErrBad
	}
	return s, api.OK
}

// crew returns the crew as it is now.
func (s *shift) crew() api.Crew {
	w := api.Crew{Book: s.book, Mover: s.mover}
	for _, r := range s.robots {
		w.Robots = append(w.Robots, r.Robot)
	}
	return w
}

// has reports whether a number, of any size, is one of a robot.
func (s *shift) has(n int) bool { return n >= 0 && n < len(s.robots) }

// goal returns the goal of a robot: ErrNone if it has none.
func (s *shift) goal(r *robot) (int, api.Errno) { return s.place(r, duties[r.State].goal) }

// place returns the home of a robot, or the pick or the drop of its order: ErrNone for any other spot, and if it has no order.
func (s *shift) place(r *robot, x spot) (int, api.Errno) {
	if x == home {
		return s.team.Homes[r.number], api.OK
	}
	o, e := orders.Get(s.team, s.book, r.Order)
	if e != api.OK {
		return 0, e
	}
	switch x {
	case pick:
		return s.team.Picks[o.Pick], api.OK
	case drop:
		return s.team.Drops[o.Drop], api.OK
	}
	return 0, api.ErrNone
}

// isOnAisle reports whether a robot stands on an aisle.
func (s *shift) isOnAisle(r *robot) bool { return s.c.Floor.Cells[r.Place] == api.CellAisle }

// canGo reports whether a robot has a goal and can go there: no other robot is there, and the leg has a route from this tick on.
func (s *shift) canGo(r *robot) bool {
	goal, e := s.goal(r)
	if e != api.OK {
		return false
	}
	isTaken := slices.ContainsFunc(s.robots, func(x *robot) bool { return x != r && x.Place == goal })
	if isTaken {
		return false
	}
	_, e = route.Arrival(s.c, s.t, api.Leg{From: r.Place, To: goal}, s.tick)
	return e == api.OK
}

// workTicks returns how many ticks the work of a robot in its state takes; 0 if it does not work.
func (s *shift) workTicks(r *robot) int {
	switch r.State {
	case api.RobotLoading:
		return s.team.Load
	case api.RobotUnloading:
		return s.team.Unload
	}
	return 0
}

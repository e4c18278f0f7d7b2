package crew

import (
	"cmp"
	"slices"

	"dunnage/api"
	"dunnage/orders"
	"dunnage/route"
)

// Begin returns the crew after the parts 1 to 3 of a tick.
func Begin(c api.Config, t int, w api.Crew, tick uint64) (api.Crew, api.Errno) {
	w, _, e := run(c, t, w, tick, begin)
	return w, e
}

// Work returns the crew after the part 4 of a tick, and the orders that are done by it.
func Work(c api.Config, t int, w api.Crew, tick uint64) (api.Crew, []int, api.Errno) {
	return run(c, t, w, tick, work)
}

// Move returns the crew after the parts 5 and 6 of a tick.
func Move(c api.Config, t int, w api.Crew, tick uint64) (api.Crew, api.Errno) {
	w, _, e := run(c, t, w, tick, move)
	return w, e
}

// Step returns the crew after a tick, and the orders that are done by it.
func Step(c api.Config, t int, w api.Crew, tick uint64) (api.Crew, []int, api.Errno) {
	return run(c, t, w, tick, begin, work, move)
}

// phase is the share of a tick that one call does.
type phase int

const (
	begin phase = iota
	work
	move
)

// part is a part of a tick: the phase that it belongs to, and what is done in it.
type part struct {
	phase phase
	do    func(s *shift) api.Errno
}

// parts returns the parts of a tick, in their order.
func parts() []part {
	return []part{
		{begin, (*shift).startStalls},
		{begin, (*shift).callRobots},
		{begin, (*shift).chooseMover},
		{work, (*shift).doWork},
		{move, (*shift).moveMover},
		{move, (*shift).countStalls},
	}
}

// run returns the crew after some phases of a tick, and the orders that are done by them: Check's error, and ErrArg if what comes after begin is asked of the last tick.
func run(c api.Config, t int, w api.Crew, tick uint64, phases ...phase) (api.Crew, []int, api.Errno) {
	s, e := shiftOf(c, t, w, tick)
	if e != api.OK {
		return api.Crew{}, nil, e
	}
	if tick == api.MaxTick && slices.Max(phases) > begin {
		return api.Crew{}, nil, api.ErrArg
	}
	for _, x := range parts() {
		if !slices.Contains(phases, x.phase) {
			continue
		}
		if e := x.do(s); e != api.OK {
			return api.Crew{}, nil, e
		}
	}
	return s.crew(), s.done, api.OK
}

// startStalls is the part 1: stalls that are due begin, but for a robot on an aisle, which must not stay there.
func (s *shift) startStalls() api.Errno {
	for _, r := range s.robots {
		if r.Due && !s.isOnAisle(r) {
			r.Due, r.Stall = false, len(s.c.Slices)
		}
	}
	return api.OK
}

// callRobots is the part 2: idle robots take the first queued orders.
func (s *shift) callRobots() api.Errno {
	for _, r := range s.robots {
		if r.State != api.RobotIdle || r.isHeld() || len(s.book.Queue) == 0 {
			continue
		}
		b, id, e := orders.Assign(s.team, s.book)
		if e != api.OK {
			return e
		}
		s.book, r.Order = b, id
		r.goOn()
	}
	return api.OK
}

// chooseMover is the part 3: if there is no Mover, the best candidate becomes it, unless it is held.
func (s *shift) chooseMover() api.Errno {
	if s.mover != nobody {
		return api.OK
	}
	var candidates []*robot
	for _, r := range s.robots {
		// While there is no Mover, the robots with a goal are those that are empty, called or loaded.
		if s.canGo(r) {
			candidates = append(candidates, r)
		}
	}
	if len(candidates) == 0 {
		return api.OK
	}
	// The Order of an empty robot is 0, so that it comes before each one with an order; of several the first is found.
	best := slices.MinFunc(candidates, func(a, b *robot) int { return cmp.Compare(a.Order, b.Order) })
	if !best.isHeld() {
		s.mover = best.number
		best.goOn()
	}
	return api.OK
}

// doWork is the part 4: robots load and unload.
func (s *shift) doWork() api.Errno {
	for _, r := range s.robots {
		if s.workTicks(r) == 0 || r.isHeld() {
			continue
		}
		r.Left--
		if r.Left > 0 {
			continue
		}
		if e := s.endWork(r); e != api.OK {
			return e
		}
	}
	return api.OK
}

// endWork makes a robot that was loading a loaded one, and one that was unloading an empty one.
func (s *shift) endWork(r *robot) api.Errno {
	var e api.Errno
	if r.State == api.RobotLoading {
		s.book, e = orders.Carry(s.team, s.book, r.Order)
	} else {
		s.book, e = orders.Done(s.team, s.book, r.Order, s.tick+1)
		s.done = append(s.done, r.Order)
		r.Order = 0
	}
	r.goOn()
	return e
}

// moveMover is the part 5: the Mover, unless it is held, goes on, and is no longer the Mover at its goal.
func (s *shift) moveMover() api.Errno {
	if s.mover == nobody || s.robots[s.mover].isHeld() {
		return api.OK
	}
	r := s.robots[s.mover]
	goal, e := s.goal(r)
	if e != api.OK {
		return e
	}
	if r.Place != goal {
		r.Place, e = route.Next(s.c, s.t, api.Leg{From: r.Place, To: goal}, s.tick)
		if e != api.OK {
			return e
		}
	}
	if r.Place == goal {
		r.goOn()
		r.Left = s.workTicks(r)
		s.mover = nobody
	}
	return api.OK
}

// countStalls is the part 6: robots that are held are held for one tick less.
func (s *shift) countStalls() api.Errno {
	for _, r := range s.robots {
		if r.isHeld() {
			r.Stall--
		}
	}
	return api.OK
}

package crew

import (
	"slices"

	"dunnage/api"
	"dunnage/orders"
	"dunnage/route"
)

// isValid reports whether the crew is valid, if it has as many robots as it should, and a valid book.
func (s *shift) isValid() bool {
	for _, r := range s.robots {
		if !s.isRight(r) {
			return false
		}
	}
	return s.areApart() && s.haveAllOrders() && s.hasRightMover()
}

// isRight reports whether a robot is as its state requires, and its stall as it may be.
func (s *shift) isRight(r *robot) bool {
	return r.State <= api.RobotToHome && s.hasRightOrder(r) && s.hasRightPlace(r) && s.hasRightLeft(r) && s.hasRightStall(r)
}

// hasRightOrder reports whether a robot has an order in the state that its own state requires, or none.
func (s *shift) hasRightOrder(r *robot) bool {
	wanted := duties[r.State].order
	if wanted == 0 {
		return r.Order == 0
	}
	o, e := orders.Get(s.team, s.book, r.Order)
	return e == api.OK && o.State == wanted
}

// hasRightPlace reports whether a robot with the right order stands where its state requires.
func (s *shift) hasRightPlace(r *robot) bool {
	switch where := duties[r.State].stands; where {
	case anywhere:
		is, e := route.Allowed(s.c, s.t, r.Place, s.tick)
		return is && e == api.OK
	case someDrop:
		return slices.Contains(s.team.Drops, r.Place)
	default:
		p, e := s.place(r, where)
		return e == api.OK && r.Place == p
	}
}

// hasRightLeft reports whether a robot has as many ticks of work left as its state requires.
func (s *shift) hasRightLeft(r *robot) bool {
	most := s.workTicks(r)
	return r.Left >= min(most, 1) && r.Left <= most
}

// hasRightStall reports whether the stall of a robot at the right place is one that it may have.
func (s *shift) hasRightStall(r *robot) bool {
	if r.Due || s.isOnAisle(r) {
		return r.Stall == 0
	}
	return r.Stall >= 0 && r.Stall <= len(s.c.Slices)
}

// areApart reports whether no two robots are at one place, or have one order.
func (s *shift) areApart() bool {
	places, taken := map[int]bool{}, map[int]bool{}
	for _, r := range s.robots {
		if places[r.Place] || taken[r.Order] {
			return false
		}
		places[r.Place] = true
		if r.Order != 0 {
			taken[r.Order] = true
		}
	}
	return true
}

// haveAllOrders reports whether each order that is assigned or carrying is the order of a robot.
func (s *shift) haveAllOrders() bool {
	for _, o := range s.book.Orders {
		isOpen := o.State == api.OrderAssigned || o.State == api.OrderCarrying
		if isOpen && !slices.ContainsFunc(s.robots, func(r *robot) bool { return r.Order == o.Id }) {
			return false
		}
	}
	return true
}

// hasRightMover reports whether the Mover is the one robot that is on a leg, and can go there, or there is none.
func (s *shift) hasRightMover() bool {
	if s.mover != nobody && !s.has(s.mover) {
		return false
	}
	for _, r := range s.robots {
		isMover := r.number == s.mover
		if r.isOnLeg() != isMover || isMover && !s.canGo(r) {
			return false
		}
	}
	return true
}

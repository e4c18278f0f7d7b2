package orders

import (
	"slices"

	"dunnage/api"
)

// ledger is the working form of a book: the book, and the team whose it is.
type ledger struct {
	api.Book
	team api.Team
}

// ledgerOf returns the working form of a book, in memory of its own: CheckBook's error.
func ledgerOf(m api.Team, b api.Book) (ledger, api.Errno) {
	l := ledger{b, m}
	if e := l.check(); e != api.OK {
		return ledger{}, e
	}
	l.Orders, l.Queue = slices.Clone(l.Orders), slices.Clone(l.Queue)
	return l, api.OK
}

// order returns the order with a number: ErrNone unless there is one.
func (l ledger) order(id int) (api.Order, api.Errno) {
	if !within(1, len(l.Orders), id) {
		return api.Order{}, api.ErrNone
	}
	return l.Orders[id-1], api.OK
}

// hasSpots reports whether numbers are indexes of the team's picks and drops.
func (l ledger) hasSpots(pick, drop int) bool {
	return within(0, len(l.team.Picks)-1, pick) && within(0, len(l.team.Drops)-1, drop)
}

// queued returns the numbers of the queued orders, in ascending order.
func (l ledger) queued() []int {
	return numbersWhere(l.Orders, func(o api.Order) bool { return o.State == api.OrderQueued })
}

// numbersWhere returns the numbers, from 1 on, of the elements of a list for which a condition holds.
func numbersWhere[T any](list []T, holds func(x T) bool) []int {
	var numbers []int
	for i, x := range list {
		if holds(x) {
			numbers = append(numbers, i+1)
		}
	}
	return numbers
}

// check returns ErrTeam unless the team has valid numbers, and ErrBad unless the book is valid for it.
func (l ledger) check() (e api.Errno) {
	defer func() {
		if found := recover(); found != nil {
			// Only require panics here: anything else would be a fault of the program, and is not hidden.
			e = found.(api.Errno)
		}
	}()
	l.checkTeam()
	l.checkOrders()
	l.checkQueue()
	l.checkCount()
	return api.OK
}

// require passes an error up to check unless a condition holds.
func require(holds bool, e api.Errno) {
	if !holds {
		panic(e)
	}
}

// checkTeam requires valid numbers of the team.
func (l ledger) checkTeam() {
	m := l.team
	require(within(1, api.MaxRobots, len(m.Homes)), api.ErrTeam)
	require(within(1, api.MaxSpots, len(m.Picks), len(m.Drops)), api.ErrTeam)
	require(within(1, api.MaxWork, m.Load, m.Unload), api.ErrTeam)
	require(within(1, api.MaxQueue, m.Queue), api.ErrTeam)
	require(within(1, api.MaxQuota, m.Quota), api.ErrTeam)
	require(within(1, api.MaxWindow, m.Window), api.ErrTeam)
}

// checkOrders requires valid orders that are numbered from 1 on and have spots of the team.
func (l ledger) checkOrders() {
	require(len(l.Orders) <= api.MaxOrders, api.ErrBad)
	for i, o := range l.Orders {
		require(o.Id == i+1 && Check(o) == api.OK && l.hasSpots(o.Pick, o.Drop), api.ErrBad)
	}
}

// checkQueue requires that the queue has the queued orders, and that the team has room for them.
func (l ledger) checkQueue() {
	require(len(l.Queue) <= l.team.Queue && slices.Equal(l.Queue, l.queued()), api.ErrBad)
}

// checkCount requires a valid count.
func (l ledger) checkCount() {
	require(CheckCount(l.Count, l.team.Window, l.team.Quota) == api.OK, api.ErrBad)
}

package orders

import "dunnage/api"

// CheckBook returns an error unless a book is valid for a team.
func CheckBook(m api.Team, b api.Book) api.Errno { return ledger{b, m}.check() }

// Submit returns the book with one more order, and its number.
func Submit(m api.Team, b api.Book, pick, drop int, now uint64) (api.Book, int, api.Errno) {
	l, e := ledgerOf(m, b)
	if e != api.OK {
		return api.Book{}, 0, e
	}
	if !l.hasSpots(pick, drop) || now > api.MaxTick {
		return api.Book{}, 0, api.ErrArg
	}
	if len(l.Orders) == api.MaxOrders {
		return api.Book{}, 0, api.ErrMany
	}
	if len(l.Queue) == m.Queue {
		return api.Book{}, 0, api.ErrFull
	}
	l.Count, e = Take(l.Count, m.Window, m.Quota, now)
	if e != api.OK {
		return api.Book{}, 0, e
	}
	o, e := New(len(l.Orders)+1, pick, drop, now)
	if e != api.OK {
		return api.Book{}, 0, e
	}
	l.Orders = append(l.Orders, o)
	l.Queue = append(l.Queue, o.Id)
	return l.Book, o.Id, api.OK
}

// Cancel returns the book in which a queued order is cancelled.
func Cancel(m api.Team, b api.Book, id int) (api.Book, api.Errno) {
	return advanceIn(m, b, id, api.OrderCancelled, 0)
}

// Assign returns the book in which the first order of the queue is assigned, and its number.
func Assign(m api.Team, b api.Book) (api.Book, int, api.Errno) {
	if e := CheckBook(m, b); e != api.OK {
		return api.Book{}, 0, e
	}
	if len(b.Queue) == 0 {
		return api.Book{}, 0, api.ErrNone
	}
	id := b.Queue[0]
	after, e := advanceIn(m, b, id, api.OrderAssigned, 0)
	if e != api.OK {
		return api.Book{}, 0, e
	}
	return after, id, api.OK
}

// Carry returns the book in which an assigned order is carried.
func Carry(m api.Team, b api.Book, id int) (api.Book, api.Errno) {
	return advanceIn(m, b, id, api.OrderCarrying, 0)
}

// Done returns the book in which a carried order is completed.
func Done(m api.Team, b api.Book, id int, now uint64) (api.Book, api.Errno) {
	return advanceIn(m, b, id, api.OrderDone, now)
}

// Get returns an order.
func Get(m api.Team, b api.Book, id int) (api.Order, api.Errno) {
	l, e := ledgerOf(m, b)
	if e != api.OK {
		return api.Order{}, e
	}
	return l.order(id)
}

// Totals returns how many orders there are, and how many are in each state.
func Totals(m api.Team, b api.Book) ([6]int, api.Errno) {
	l, e := ledgerOf(m, b)
	if e != api.OK {
		return [6]int{}, e
	}
	totals := [6]int{len(l.Orders)}
	for _, o := range l.Orders {
		totals[o.State]++
	}
	return totals, api.OK
}

// advanceIn returns the book with an order of it in another state: CheckBook's error, ErrNone unless there is that order, and Advance's error.
func advanceIn(m api.Team, b api.Book, id int, state uint8, now uint64) (api.Book, api.Errno) {
	l, e := ledgerOf(m, b)
	if e != api.OK {
		return api.Book{}, e
	}
	o, e := l.order(id)
	if e != api.OK {
		return api.Book{}, e
	}
	o, e = Advance(o, state, now)
	if e != api.OK {
		return api.Book{}, e
	}
	l.Orders[id-1] = o
	l.Queue = l.queued()
	return l.Book, api.OK
}

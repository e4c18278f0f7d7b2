package orders_test

import "dunnage/api"

// The functions of this file restate the chapter's definitions as literally as possible.

// specOrder reports whether an order is valid.
func specOrder(o api.Order) bool {
	if o.Id < 1 || o.Id > 64 || o.Pick < 0 || o.Pick > 2 || o.Drop < 0 || o.Drop > 2 {
		return false
	}
	if o.State < 1 || o.State > 5 || o.At > 1<<62 {
		return false
	}
	if o.State == 4 {
		return o.Done != 0 && o.Done <= 1<<62
	}
	return o.Done == 0
}

// specNew returns what New returns.
func specNew(id, pick, drop int, now uint64) (api.Order, api.Errno) {
	if id < 1 || id > 64 || pick < 0 || pick > 2 || drop < 0 || drop > 2 || now > 1<<62 {
		return api.Order{}, api.ErrArg
	}
	return api.Order{Id: id, Pick: pick, Drop: drop, State: 1, At: now, Done: 0}, api.OK
}

// specAdvance returns what Advance returns.
func specAdvance(o api.Order, state uint8, now uint64) (api.Order, api.Errno) {
	if !specOrder(o) {
		return api.Order{}, api.ErrBad
	}
	if state < 1 || state > 5 || now > 1<<62 || state == 4 && now == 0 {
		return api.Order{}, api.ErrArg
	}
	switch [2]uint8{o.State, state} {
	case [2]uint8{1, 2}, [2]uint8{1, 5}, [2]uint8{2, 3}:
		return api.Order{Id: o.Id, Pick: o.Pick, Drop: o.Drop, State: state, At: o.At}, api.OK
	case [2]uint8{3, 4}:
		return api.Order{Id: o.Id, Pick: o.Pick, Drop: o.Drop, State: state, At: o.At, Done: now}, api.OK
	}
	return api.Order{}, api.ErrState
}

// specCount returns what CheckCount returns.
func specCount(c api.Count, window, quota int) api.Errno {
	if window < 1 || window > 64 || quota < 1 || quota > 16 {
		return api.ErrArg
	}
	if c.Window > 1<<62 || c.Many < 0 || c.Many > quota {
		return api.ErrBad
	}
	return api.OK
}

// specCountAt returns the count in the window of a tick.
func specCountAt(c api.Count, window int, now uint64) int {
	if now/uint64(window) == c.Window {
		return c.Many
	}
	return 0
}

// specTake returns what Take returns.
func specTake(c api.Count, window, quota int, now uint64) (api.Count, api.Errno) {
	if e := specCount(c, window, quota); e != api.OK {
		return api.Count{}, e
	}
	if now > 1<<62 {
		return api.Count{}, api.ErrArg
	}
	if specCountAt(c, window, now) == quota {
		return api.Count{}, api.ErrQuota
	}
	return api.Count{Window: now / uint64(window), Many: specCountAt(c, window, now) + 1}, api.OK
}

// specRemaining returns what Remaining returns.
func specRemaining(c api.Count, window, quota int, now uint64) (int, api.Errno) {
	if e := specCount(c, window, quota); e != api.OK {
		return 0, e
	}
	if now > 1<<62 {
		return 0, api.ErrArg
	}
	return quota - specCountAt(c, window, now), api.OK
}

// specTeam reports whether a team has valid numbers.
func specTeam(m api.Team) bool {
	for _, list := range [][]int{m.Homes, m.Picks, m.Drops} {
		if len(list) < 1 || len(list) > 3 {
			return false
		}
	}
	return m.Load >= 1 && m.Load <= 8 && m.Unload >= 1 && m.Unload <= 8 &&
		m.Queue >= 1 && m.Queue <= 8 && m.Quota >= 1 && m.Quota <= 16 && m.Window >= 1 && m.Window <= 64
}

// specQueue reports whether the queue of a book has exactly the numbers of the queued orders, in ascending order.
func specQueue(b api.Book) bool {
	isQueued := map[int]bool{}
	for _, o := range b.Orders {
		if o.State == 1 {
			isQueued[o.Id] = true
		}
	}
	for i, id := range b.Queue {
		if !isQueued[id] || i > 0 && id <= b.Queue[i-1] {
			return false
		}
	}
	return len(b.Queue) == len(isQueued)
}

// specBook returns what CheckBook returns.
func specBook(m api.Team, b api.Book) api.Errno {
	if !specTeam(m) {
		return api.ErrTeam
	}
	if len(b.Orders) > 64 {
		return api.ErrBad
	}
	for i, o := range b.Orders {
		if o.Id != i+1 || !specOrder(o) || o.Pick >= len(m.Picks) || o.Drop >= len(m.Drops) {
			return api.ErrBad
		}
	}
	if !specQueue(b) || len(b.Queue) > m.Queue || specCount(b.Count, m.Window, m.Quota) != api.OK {
		return api.ErrBad
	}
	return api.OK
}

// specSubmit returns what Submit returns.
func specSubmit(m api.Team, b api.Book, pick, drop int, now uint64) (api.Book, int, api.Errno) {
	if e := specBook(m, b); e != api.OK {
		return api.Book{}, 0, e
	}
	if pick < 0 || pick >= len(m.Picks) || drop < 0 || drop >= len(m.Drops) || now > 1<<62 {
		return api.Book{}, 0, api.ErrArg
	}
	if len(b.Orders) == 64 {
		return api.Book{}, 0, api.ErrMany
	}
	if len(b.Queue) == m.Queue {
		return api.Book{}, 0, api.ErrFull
	}
	count, e := specTake(b.Count, m.Window, m.Quota, now)
	if e == api.ErrQuota {
		return api.Book{}, 0, api.ErrQuota
	}
	id := len(b.Orders) + 1
	b = copied(b)
	b.Orders = append(b.Orders, api.Order{Id: id, Pick: pick, Drop: drop, State: 1, At: now})
	b.Queue = append(b.Queue, id)
	b.Count = count
	return b, id, api.OK
}

// specWithout returns a queue without a number.
func specWithout(queue []int, id int) []int {
	var rest []int
	for _, q := range queue {
		if q != id {
			rest = append(rest, q)
		}
	}
	return rest
}

// specCancel returns what Cancel returns.
func specCancel(m api.Team, b api.Book, id int) (api.Book, api.Errno) {
	if e := specBook(m, b); e != api.OK {
		return api.Book{}, e
	}
	if id < 1 || id > len(b.Orders) {
		return api.Book{}, api.ErrNone
	}
	if b.Orders[id-1].State != 1 {
		return api.Book{}, api.ErrState
	}
	b = copied(b)
	b.Orders[id-1].State = 5
	b.Queue = specWithout(b.Queue, id)
	return b, api.OK
}

// specAssign returns what Assign returns.
func specAssign(m api.Team, b api.Book) (api.Book, int, api.Errno) {
	if e := specBook(m, b); e != api.OK {
		return api.Book{}, 0, e
	}
	if len(b.Queue) == 0 {
		return api.Book{}, 0, api.ErrNone
	}
	id := b.Queue[0]
	b = copied(b)
	b.Orders[id-1].State = 2
	b.Queue = b.Queue[1:]
	return b, id, api.OK
}

// specMove returns what Carry (3 at the tick 0) and Done (4) return.
func specMove(m api.Team, b api.Book, id int, state uint8, now uint64) (api.Book, api.Errno) {
	if e := specBook(m, b); e != api.OK {
		return api.Book{}, e
	}
	if id < 1 || id > len(b.Orders) {
		return api.Book{}, api.ErrNone
	}
	o, e := specAdvance(b.Orders[id-1], state, now)
	if e != api.OK {
		return api.Book{}, e
	}
	b = copied(b)
	b.Orders[id-1] = o
	return b, api.OK
}

// specGet returns what Get returns.
func specGet(m api.Team, b api.Book, id int) (api.Order, api.Errno) {
	if e := specBook(m, b); e != api.OK {
		return api.Order{}, e
	}
	if id < 1 || id > len(b.Orders) {
		return api.Order{}, api.ErrNone
	}
	return b.Orders[id-1], api.OK
}

// specTotals returns what Totals returns.
func specTotals(m api.Team, b api.Book) ([6]int, api.Errno) {
	var totals [6]int
	if e := specBook(m, b); e != api.OK {
		return totals, e
	}
	for state := range totals {
		for _, o := range b.Orders {
			if state == 0 || int(o.State) == state {
				totals[state]++
			}
		}
	}
	return totals, api.OK
}

// specRun returns what an operation returns.
func specRun(op operation, m api.Team, b api.Book) result {
	var r result
	switch op.kind {
	case submit:
		r.b, r.id, r.e = specSubmit(m, b, op.pick, op.drop, op.now)
	case assign:
		r.b, r.id, r.e = specAssign(m, b)
	case cancel:
		r.b, r.e = specCancel(m, b, op.id)
		r.id = op.id
	case carry:
		r.b, r.e = specMove(m, b, op.id, 3, 0)
		r.id = op.id
	default:
		r.b, r.e = specMove(m, b, op.id, 4, op.now)
		r.id = op.id
	}
	return r
}

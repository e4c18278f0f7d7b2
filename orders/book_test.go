package orders_test

import (
	"slices"
	"testing"

	"dunnage/api"
	"dunnage/orders"
)

// someNumbers are numbers of orders, indexes of spots, and numbers that are neither.
var someNumbers = append([]int{-2, -1, 0, 1, 2, 3, 4, 5, 6, 7, 8, 55, 56, 62, 63, 64, 65, 66}, hugeNumbers...)

// P5.4, P5.5: the examples of the chapter, one after the other.
func TestBookExamples(t *testing.T) {
	m, b := exampleTeam(), api.Book{}
	for i, x := range []struct {
		op operation
		id int
		e  api.Errno
	}{
		{operation{kind: submit, pick: 1, now: 3}, 1, api.OK},
		{operation{kind: submit, pick: 1, now: 3}, 2, api.OK},
		{operation{kind: submit, pick: 1, now: 3}, 0, api.ErrFull},
		{operation{kind: cancel, id: 2}, 2, api.OK},
		{operation{kind: submit, now: 4}, 3, api.OK},
		{operation{kind: cancel, id: 3}, 3, api.OK},
		{operation{kind: submit, now: 5}, 0, api.ErrQuota},
		{operation{kind: submit, now: 8}, 4, api.OK},
		{operation{kind: assign}, 1, api.OK},
		{operation{kind: assign}, 4, api.OK},
		{operation{kind: assign}, 0, api.ErrNone},
		{operation{kind: carry, id: 1}, 1, api.OK},
		{operation{kind: carry, id: 1}, 1, api.ErrState},
		{operation{kind: done, id: 1, now: 9}, 1, api.OK},
		{operation{kind: cancel, id: 4}, 4, api.ErrState},
	} {
		after := x.op.run(m, b)
		if after.id != x.id || after.e != x.e {
			t.Fatalf("%d: %d, %d, want %d, %d", i, after.id, after.e, x.id, x.e)
		}
		if after.e == api.OK {
			b = after.b
		}
	}
	o, e := orders.Get(m, b, 5)
	want(t, "Get", o, e, api.Order{}, api.ErrNone)
	n, e := orders.Totals(m, b)
	want(t, "Totals", n, e, [6]int{4, 0, 1, 0, 1, 2}, api.OK)
	wantBook(t, "the book", b, api.OK, api.Book{
		Orders: []api.Order{
			{Id: 1, Pick: 1, State: api.OrderDone, At: 3, Done: 9},
			{Id: 2, Pick: 1, State: api.OrderCancelled, At: 3},
			{Id: 3, State: api.OrderCancelled, At: 4},
			{Id: 4, State: api.OrderAssigned, At: 8},
		},
		Count: api.Count{Window: 1, Many: 1},
	}, api.OK)
	for _, op := range []operation{{kind: submit, pick: 2, now: 3}, {kind: submit, drop: 1, now: 3}} {
		after := op.run(m, api.Book{})
		wantNumbered(t, "Submit", after.b, after.id, after.e, api.Book{}, 0, api.ErrArg)
	}
	m.Queue = 9
	wantErrno(t, "CheckBook", orders.CheckBook(m, api.Book{}), api.ErrTeam)
}

// P5.3: CheckBook accepts valid books for teams with valid numbers.
func TestCheckBook(t *testing.T) {
	for _, a := range goodAccounts() {
		wantErrno(t, "CheckBook", orders.CheckBook(a.m, a.b), api.OK)
	}
}

// P5.3: each number of a team has its range.
func TestCheckTeams(t *testing.T) {
	for _, bad := range badTeams() {
		for _, b := range []api.Book{{}, exampleBook(), {Queue: []int{9}}} {
			wantErrno(t, "CheckBook for a team with "+bad.what, orders.CheckBook(bad.m, b), api.ErrTeam)
		}
	}
	for n := 1; n <= 64; n++ {
		m := changedTeam(exampleTeam(), func(m *api.Team) {
			m.Homes, m.Picks, m.Drops = make([]int, 1+n%3), make([]int, 1+n/2%3), make([]int, 1+n/4%3)
			m.Load, m.Unload, m.Queue, m.Quota, m.Window = 1+n%8, 1+(n+3)%8, 1+(n+5)%8, 1+n%16, n
		})
		wantErrno(t, "CheckBook", orders.CheckBook(m, api.Book{}), api.OK)
	}
}

// P5.3: a book that is not valid for one reason.
func TestCheckBadBooks(t *testing.T) {
	for _, bad := range badBooks() {
		wantErrno(t, "CheckBook of "+bad.what, orders.CheckBook(exampleTeam(), bad.b), api.ErrBad)
	}
}

// P5.3: a book that is valid for one team is not for another one with less.
func TestCheckBookForAnotherTeam(t *testing.T) {
	for _, x := range []struct {
		what   string
		change func(m *api.Team)
		want   api.Errno
	}{
		{"with more", func(m *api.Team) { m.Picks, m.Drops, m.Queue, m.Quota = make([]int, 3), make([]int, 3), 8, 16 }, api.OK},
		{"with another window", func(m *api.Team) { m.Window = 64 }, api.OK},
		{"with a quota of 1", func(m *api.Team) { m.Quota = 1 }, api.OK},
		{"with one pick", func(m *api.Team) { m.Picks = m.Picks[:1] }, api.ErrBad},
		{"with a queue of 1", func(m *api.Team) { m.Queue = 1 }, api.ErrBad},
	} {
		wantErrno(t, "CheckBook for a team "+x.what, orders.CheckBook(changedTeam(exampleTeam(), x.change), exampleBook()), x.want)
	}
	full := changed(exampleBook(), func(b *api.Book) { b.Count.Many = 3 })
	few := changedTeam(exampleTeam(), func(m *api.Team) { m.Quota = 2 })
	wantErrno(t, "CheckBook for a smaller quota", orders.CheckBook(few, full), api.ErrBad)
}

// P5.3: a change of one number in a drawn book.
func TestCheckDrawnBooks(t *testing.T) {
	found := map[api.Errno]int{}
	for seed := range 4000 {
		a := drawnAccount(seed % 200)
		draw := drawer(seed)
		n := []int{-1, 0, 1, 2, 3, 5, 9, 64}[draw(8)]
		b := changed(a.b, func(b *api.Book) {
			if len(b.Orders) == 0 {
				return
			}
			o := &b.Orders[draw(len(b.Orders))]
			switch draw(8) {
			case 0:
				o.Id = n
			case 1:
				o.Pick, o.Drop = o.Drop, n
			case 2:
				o.State = uint8(n)
			case 3:
				o.Done = uint64(n)
			case 4:
				b.Count.Many = n
			case 5:
				b.Queue = append(b.Queue, n)
			case 6:
				b.Queue = b.Queue[len(b.Queue)/2:]
			case 7:
				o.State, o.Done = api.OrderQueued, 0
			}
		})
		wanted := specBook(a.m, b)
		found[wanted]++
		if e := orders.CheckBook(a.m, b); e != wanted {
			t.Errorf("CheckBook of %v for %v: %d, want %d", b, a.m, e, wanted)
		}
	}
	if found[api.OK] < 500 || found[api.ErrBad] < 500 {
		t.Errorf("the drawn books are %v", found)
	}
}

// P5.4: Submit of all spots, and of numbers that are none, at ticks of all kinds.
func TestSubmit(t *testing.T) {
	for _, a := range goodAccounts() {
		for _, pick := range []int{-1, 0, 1, 2, 3, 1 << 32, -1 << 63} {
			for _, drop := range []int{-1, 0, 1, 2, 3, 1 << 32, 1<<63 - 1} {
				for _, now := range someTicks {
					b, id, e := orders.Submit(a.m, a.b, pick, drop, now)
					wanted, wantId, wantE := specSubmit(a.m, a.b, pick, drop, now)
					wantNumbered(t, "Submit", b, id, e, wanted, wantId, wantE)
				}
			}
		}
	}
}

// P5.4, R1: ErrArg, ErrMany, ErrFull and ErrQuota, in this order.
func TestOrderOfErrorsOfSubmit(t *testing.T) {
	m := largestTeam()
	long, last := longBook(64), uint64(api.MaxTick)
	m.Window = 1
	for _, x := range []struct {
		what string
		b    api.Book
		pick int
		want api.Errno
	}{
		{"all of them", long, 3, api.ErrArg},
		{"all but ErrArg", long, 0, api.ErrMany},
		{"a full queue, and the quota", longBook(63), 0, api.ErrFull},
		{"the quota", changed(longBook(63), func(b *api.Book) { b.Orders[62].State, b.Queue = api.OrderCancelled, b.Queue[:7] }), 0, api.ErrQuota},
		{"no reason", changed(longBook(63), func(b *api.Book) { b.Orders[62].State, b.Queue, b.Count.Many = api.OrderCancelled, b.Queue[:7], 15 }), 0, api.OK},
	} {
		_, _, e := orders.Submit(m, x.b, x.pick, 0, last)
		wantErrno(t, "Submit with "+x.what, e, x.want)
	}
	_, _, e := orders.Submit(m, long, 0, 0, last+1)
	wantErrno(t, "Submit with a late tick", e, api.ErrArg)
}

// P5.4, P5.5: operations that name an order, and Assign.
func TestOperations(t *testing.T) {
	for _, a := range goodAccounts() {
		n, e := orders.Totals(a.m, a.b)
		wantedTotals, wantE := specTotals(a.m, a.b)
		want(t, "Totals", n, e, wantedTotals, wantE)
		b, id, e := orders.Assign(a.m, a.b)
		wanted, wantId, wantE := specAssign(a.m, a.b)
		wantNumbered(t, "Assign", b, id, e, wanted, wantId, wantE)
		for _, id := range someNumbers {
			b, e := orders.Cancel(a.m, a.b, id)
			wanted, wantE := specCancel(a.m, a.b, id)
			wantBook(t, "Cancel", b, e, wanted, wantE)
			b, e = orders.Carry(a.m, a.b, id)
			wanted, wantE = specMove(a.m, a.b, id, api.OrderCarrying, 0)
			wantBook(t, "Carry", b, e, wanted, wantE)
			for _, now := range someTicks {
				b, e = orders.Done(a.m, a.b, id, now)
				wanted, wantE = specMove(a.m, a.b, id, api.OrderDone, now)
				wantBook(t, "Done", b, e, wanted, wantE)
			}
			o, e := orders.Get(a.m, a.b, id)
			wantedOrder, wantE := specGet(a.m, a.b, id)
			want(t, "Get", o, e, wantedOrder, wantE)
		}
	}
}

// P5.4, P5.5: each operation on each order of the example book.
func TestOperationsOnTheExampleBook(t *testing.T) {
	m, b := exampleTeam(), exampleBook()
	for _, x := range []struct {
		id                  int
		cancel, carry, done api.Errno
	}{
		{0, api.ErrNone, api.ErrNone, api.ErrNone},
		{1, api.ErrState, api.ErrState, api.ErrState},
		{2, api.ErrState, api.ErrState, api.OK},
		{3, api.OK, api.ErrState, api.ErrState},
		{4, api.ErrState, api.ErrState, api.ErrState},
		{5, api.ErrState, api.OK, api.ErrState},
		{6, api.OK, api.ErrState, api.ErrState},
		{7, api.ErrNone, api.ErrNone, api.ErrNone},
	} {
		_, e := orders.Cancel(m, b, x.id)
		wantErrno(t, "Cancel", e, x.cancel)
		_, e = orders.Carry(m, b, x.id)
		wantErrno(t, "Carry", e, x.carry)
		_, e = orders.Done(m, b, x.id, 20)
		wantErrno(t, "Done", e, x.done)
	}
	n, e := orders.Totals(m, b)
	want(t, "Totals", n, e, [6]int{6, 2, 1, 1, 1, 1}, api.OK)
	after, e := orders.Cancel(m, b, 3)
	wantBook(t, "Cancel", after, e, changed(b, func(b *api.Book) { b.Orders[2].State, b.Queue = api.OrderCancelled, []int{6} }), api.OK)
	after, id, e := orders.Assign(m, b)
	wantNumbered(t, "Assign", after, id, e, changed(b, func(b *api.Book) { b.Orders[2].State, b.Queue = api.OrderAssigned, []int{6} }), 3, api.OK)
	after, id, e = orders.Assign(m, after)
	wantNumbered(t, "Assign", after, id, e, changed(b, func(b *api.Book) {
		b.Orders[2].State, b.Orders[5].State, b.Queue = api.OrderAssigned, api.OrderAssigned, nil
	}), 6, api.OK)
}

// P5.5, R1: ErrNone comes before ErrArg, and ErrArg before ErrState.
func TestOrderOfErrorsOfDone(t *testing.T) {
	m, b := exampleTeam(), exampleBook()
	for _, now := range append([]uint64{0}, lateTicks...) {
		for id := 1; id <= 6; id++ {
			after, e := orders.Done(m, b, id, now)
			wantBook(t, "Done at no tick of completion", after, e, api.Book{}, api.ErrArg)
		}
		for _, id := range slices.Concat([]int{-1, 0, 7}, hugeNumbers) {
			after, e := orders.Done(m, b, id, now)
			wantBook(t, "Done of no order", after, e, api.Book{}, api.ErrNone)
		}
	}
}

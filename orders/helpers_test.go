package orders_test

import (
	"math"
	"slices"
	"testing"

	"dunnage/api"
	"dunnage/orders"
)

// hugeNumbers are far out of each range, and so chosen that a conversion to fewer bits, or a sum, would bring them back.
var hugeNumbers = []int{math.MinInt, math.MinInt + 1, -1 << 32, -255, 256, 257, 1 << 32, 1<<32 + 1, 1 << 62, math.MaxInt - 1, math.MaxInt}

// lateTicks are beyond MaxTick.
var lateTicks = []uint64{api.MaxTick + 1, api.MaxTick + 8, api.MaxLook, 1 << 63, math.MaxUint64 - 1, math.MaxUint64}

// wantErrno checks an error number.
func wantErrno(t *testing.T, what string, got, want api.Errno) {
	t.Helper()
	if got != want {
		t.Errorf("%s: error %d, want %d", what, got, want)
	}
}

// want checks a result and an error number.
func want[T comparable](t *testing.T, what string, got T, e api.Errno, wanted T, wantE api.Errno) {
	t.Helper()
	if got != wanted || e != wantE {
		t.Errorf("%s: %v, %d, want %v, %d", what, got, e, wanted, wantE)
	}
}

// wantBook checks a book and an error number.
func wantBook(t *testing.T, what string, got api.Book, e api.Errno, wanted api.Book, wantE api.Errno) {
	t.Helper()
	if !equalBooks(got, wanted) || e != wantE {
		t.Errorf("%s: %v, %d, want %v, %d", what, got, e, wanted, wantE)
	}
}

// wantNumbered checks a book, an order's number and an error number.
func wantNumbered(t *testing.T, what string, got api.Book, id int, e api.Errno, wanted api.Book, wantId int, wantE api.Errno) {
	t.Helper()
	if !equalBooks(got, wanted) || id != wantId || e != wantE {
		t.Errorf("%s: %v, %d, %d, want %v, %d, %d", what, got, id, e, wanted, wantId, wantE)
	}
}

// equalBooks reports whether two books are equal; nil and empty lists are the same.
func equalBooks(a, b api.Book) bool {
	return slices.Equal(a.Orders, b.Orders) && slices.Equal(a.Queue, b.Queue) && a.Count == b.Count
}

// copied returns a book that shares no memory with another one.
func copied(b api.Book) api.Book {
	b.Orders, b.Queue = slices.Clone(b.Orders), slices.Clone(b.Queue)
	return b
}

// changed returns a copy of a book after a change.
func changed(b api.Book, change func(b *api.Book)) api.Book {
	b = copied(b)
	change(&b)
	return b
}

// changedTeam returns a copy of a team after a change.
func changedTeam(m api.Team, change func(m *api.Team)) api.Team {
	m.Homes, m.Picks, m.Drops = slices.Clone(m.Homes), slices.Clone(m.Picks), slices.Clone(m.Drops)
	change(&m)
	return m
}

// exampleTeam returns the team of the chapter's examples.
func exampleTeam() api.Team {
	return api.Team{Homes: []int{0}, Picks: []int{1, 2}, Drops: []int{3}, Load: 1, Unload: 1, Queue: 2, Quota: 3, Window: 8}
}

// exampleBook returns a book for exampleTeam with an order in each state, and two that are queued.
func exampleBook() api.Book {
	return api.Book{
		Orders: []api.Order{
			{Id: 1, Pick: 1, State: api.OrderDone, At: 3, Done: 9},
			{Id: 2, State: api.OrderCarrying, At: 3},
			{Id: 3, Pick: 1, State: api.OrderQueued, At: 8},
			{Id: 4, State: api.OrderCancelled, At: 8},
			{Id: 5, State: api.OrderAssigned, At: 9},
			{Id: 6, Pick: 1, State: api.OrderQueued, At: 16},
		},
		Queue: []int{3, 6},
		Count: api.Count{Window: 2, Many: 1},
	}
}

// largestTeam returns a team that has all that one may have; where its spots are does not matter.
func largestTeam() api.Team {
	return api.Team{Homes: []int{5, 5, -1}, Picks: []int{0, 99, 0}, Drops: []int{math.MaxInt, math.MinInt, 5}, Load: 8, Unload: 8, Queue: 8, Quota: 16, Window: 64}
}

// smallestTeam returns a team that has as little as one may have.
func smallestTeam() api.Team {
	return api.Team{Homes: []int{0}, Picks: []int{0}, Drops: []int{0}, Load: 1, Unload: 1, Queue: 1, Quota: 1, Window: 1}
}

// longBook returns a valid book for largestTeam with some orders, of which all queued ones but the last 8 were completed.
func longBook(many int) api.Book {
	b := api.Book{Count: api.Count{Window: api.MaxTick, Many: 16}}
	for i := range many {
		o := api.Order{Id: i + 1, Pick: i % 3, Drop: i / 3 % 3, State: api.OrderDone, At: api.MaxTick, Done: uint64(i + 1)}
		if i >= many-8 {
			o.State, o.Done = api.OrderQueued, 0
			b.Queue = append(b.Queue, i+1)
		}
		b.Orders = append(b.Orders, o)
	}
	return b
}

// account is a book, and the team whose it is.
type account struct {
	m api.Team
	b api.Book
}

// goodAccounts returns valid books for valid teams.
func goodAccounts() []account {
	queue := changed(exampleBook(), func(b *api.Book) { b.Count = api.Count{Window: api.MaxTick, Many: 3} })
	all := []account{
		{exampleTeam(), api.Book{}}, {exampleTeam(), exampleBook()}, {exampleTeam(), queue},
		{smallestTeam(), api.Book{}}, {largestTeam(), api.Book{}},
		{largestTeam(), longBook(8)}, {largestTeam(), longBook(63)}, {largestTeam(), longBook(64)},
		{largestTeam(), exampleBook()},
	}
	for seed := range 30 {
		all = append(all, drawnAccount(seed))
	}
	return all
}

// badTeam is a team without valid numbers.
type badTeam struct {
	what string
	m    api.Team
}

// badTeams returns teams of which one number is out of its range.
func badTeams() []badTeam {
	all := []badTeam{{"no team", api.Team{}}}
	add := func(what string, change func(m *api.Team)) {
		all = append(all, badTeam{what, changedTeam(exampleTeam(), change)})
	}
	for _, many := range []int{0, 4, 5, 256, 257} {
		add("homes", func(m *api.Team) { m.Homes = make([]int, many) })
		add("picks", func(m *api.Team) { m.Picks = make([]int, many) })
		add("drops", func(m *api.Team) { m.Drops = make([]int, many) })
	}
	for _, n := range append([]int{-1, 0}, hugeNumbers...) {
		add("a load", func(m *api.Team) { m.Load = n })
		add("an unload", func(m *api.Team) { m.Unload = n })
		add("a queue", func(m *api.Team) { m.Queue = n })
		add("a quota", func(m *api.Team) { m.Quota = n })
		add("a window", func(m *api.Team) { m.Window = n })
	}
	add("a load of 9", func(m *api.Team) { m.Load = 9 })
	add("an unload of 9", func(m *api.Team) { m.Unload = 9 })
	add("a queue of 9", func(m *api.Team) { m.Queue = 9 })
	add("a quota of 17", func(m *api.Team) { m.Quota = 17 })
	add("a window of 65", func(m *api.Team) { m.Window = 65 })
	return all
}

// badBook is a book that is not valid for exampleTeam.
type badBook struct {
	what string
	b    api.Book
}

// badBooks returns books that are not valid for exampleTeam, each for one reason.
func badBooks() []badBook {
	var all []badBook
	add := func(what string, change func(b *api.Book)) {
		all = append(all, badBook{what, changed(exampleBook(), change)})
	}
	order := func(what string, i int, change func(o *api.Order)) {
		add(what, func(b *api.Book) { change(&b.Orders[i]) })
	}
	queue := func(what string, ids ...int) { add(what, func(b *api.Book) { b.Queue = ids }) }
	for _, n := range append([]int{-1, 0, 2, 7, 65}, hugeNumbers...) {
		order("the first number", 0, func(o *api.Order) { o.Id = n })
	}
	order("a number twice", 1, func(o *api.Order) { o.Id = 1 })
	add("a number that is left out", func(b *api.Book) { b.Orders = slices.Delete(b.Orders, 3, 4) })
	add("numbers from 0 on", func(b *api.Book) {
		b.Queue = []int{2, 5}
		for i := range b.Orders {
			b.Orders[i].Id--
		}
	})
	for _, n := range append([]int{-1, 2, 3}, hugeNumbers...) {
		order("a pick", 0, func(o *api.Order) { o.Pick = n })
		order("a drop", 5, func(o *api.Order) { o.Drop = n })
	}
	order("the drop 1", 0, func(o *api.Order) { o.Drop = 1 })
	for _, state := range []uint8{0, 6, 7, 255} {
		order("a state", 4, func(o *api.Order) { o.State = state })
	}
	for _, tick := range lateTicks {
		order("a tick of acceptance", 3, func(o *api.Order) { o.At = tick })
		order("a tick of completion", 0, func(o *api.Order) { o.Done = tick })
		add("the window of the count", func(b *api.Book) { b.Count.Window = tick })
	}
	order("no tick of completion", 0, func(o *api.Order) { o.Done = 0 })
	for i := 1; i < 6; i++ {
		order("a tick of completion of one that is not done", i, func(o *api.Order) { o.Done = 1 })
	}
	for _, n := range append([]int{-1, 4, 16}, hugeNumbers...) {
		add("a count", func(b *api.Book) { b.Count.Many = n })
	}
	queue("no queue")
	queue("a queue that lacks the last", 3)
	queue("a queue that lacks the first", 6)
	queue("a queue in another order", 6, 3)
	queue("a queue with one twice", 3, 3)
	queue("a queue with one twice, and all", 3, 6, 6)
	queue("a queue with one that is assigned", 3, 5, 6)
	queue("a queue with one that is cancelled", 3, 4)
	queue("a queue with numbers of no order", 0, 7)
	queue("a queue of indexes", 2, 5)
	order("a queued order that the queue lacks", 3, func(o *api.Order) { o.State = api.OrderQueued })
	order("an assigned order in the queue", 5, func(o *api.Order) { o.State = api.OrderAssigned })
	add("a longer queue than the team's", func(b *api.Book) {
		b.Orders[4].State = api.OrderQueued
		b.Queue = []int{3, 5, 6}
	})
	add("a queue without orders", func(b *api.Book) { b.Orders = nil })
	long := longBook(65)
	for i := range long.Orders {
		long.Orders[i] = api.Order{Id: i + 1, State: api.OrderCancelled}
	}
	long.Queue, long.Count = nil, api.Count{}
	return append(all, badBook{"65 orders", long}, badBook{"a count that is not valid, and nothing else", api.Book{Count: api.Count{Many: 4}}})
}

// drawer returns a function that draws numbers below a limit, the same ones in each run.
func drawer(seed int) func(limit int) int {
	x := uint32(seed)
	return func(limit int) int {
		x = x*1664525 + 1013904223
		return int(x>>16) % limit
	}
}

// drawnTeam returns a team with valid numbers.
func drawnTeam(draw func(limit int) int) api.Team {
	spots := func() []int { return make([]int, 1+draw(3)) }
	return api.Team{
		Homes: spots(), Picks: spots(), Drops: spots(), Load: 1 + draw(8), Unload: 1 + draw(8),
		Queue: 1 + draw(8), Quota: 1 + draw(16), Window: 1 + draw(64),
	}
}

// drawnAccount returns a valid book for a team; another seed leads to another one.
func drawnAccount(seed int) account {
	draw := drawer(seed)
	m := drawnTeam(draw)
	b := api.Book{Count: api.Count{Window: uint64(draw(5)), Many: draw(m.Quota + 1)}}
	for i := range draw(65) {
		o := api.Order{Id: i + 1, Pick: draw(len(m.Picks)), Drop: draw(len(m.Drops)), State: uint8(1 + draw(5)), At: uint64(draw(900))}
		if o.State == api.OrderQueued && len(b.Queue) == m.Queue {
			o.State = api.OrderDone
		}
		if o.State == api.OrderQueued {
			b.Queue = append(b.Queue, o.Id)
		}
		if o.State == api.OrderDone {
			o.Done = uint64(1 + draw(900))
		}
		b.Orders = append(b.Orders, o)
	}
	return account{m, b}
}

// eachHistory calls a function with the operations of a long history, from the empty book on, one after the other: the book before it, the operation, and what it returned.
func eachHistory(do func(m api.Team, before api.Book, op operation, after result)) {
	for seed := range 60 {
		draw := drawer(seed)
		m, b := drawnTeam(draw), api.Book{}
		now := uint64(0)
		for range 250 {
			op := drawnOperation(draw, b, now)
			after := op.run(m, b)
			do(m, b, op, after)
			if after.e == api.OK {
				b = after.b
			}
			now += uint64(draw(4) * draw(4))
		}
	}
}

// drawnOperation returns an operation that is likely to succeed.
func drawnOperation(draw func(limit int) int, b api.Book, now uint64) operation {
	op := operation{kind: draw(5), id: draw(len(b.Orders) + 2), now: now, pick: draw(3), drop: draw(3)}
	if draw(3) > 0 {
		for _, o := range b.Orders {
			if op.kind == carry && o.State == api.OrderAssigned || op.kind == done && o.State == api.OrderCarrying || op.kind == cancel && o.State == api.OrderQueued {
				op.id = o.Id
			}
		}
		op.pick, op.drop = 0, 0
	}
	return op
}

// Kinds of operations.
const (
	submit = iota
	cancel
	assign
	carry
	done
)

// operation is a call of a function that changes a book.
type operation struct {
	kind, id, pick, drop int
	now                  uint64
}

// result is what an operation returns: a book, and the number of the order that it changed.
type result struct {
	b  api.Book
	id int
	e  api.Errno
}

// run calls the operation's function.
func (op operation) run(m api.Team, b api.Book) result {
	switch op.kind {
	case submit:
		after, id, e := orders.Submit(m, b, op.pick, op.drop, op.now)
		return result{after, id, e}
	case assign:
		after, id, e := orders.Assign(m, b)
		return result{after, id, e}
	case cancel:
		after, e := orders.Cancel(m, b, op.id)
		return result{after, op.id, e}
	case carry:
		after, e := orders.Carry(m, b, op.id)
		return result{after, op.id, e}
	}
	after, e := orders.Done(m, b, op.id, op.now)
	return result{after, op.id, e}
}

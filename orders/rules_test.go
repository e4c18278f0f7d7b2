package orders_test

import (
	"slices"
	"testing"

	"dunnage/api"
	"dunnage/orders"
)

// arguments is what the functions that take a book take besides.
type arguments struct {
	account
	pick, drop, id int
	now            uint64
}

// outcome is what a function returned: a book, the other results as numbers, and the error.
type outcome struct {
	name   string
	b      api.Book
	others [6]int
	e      api.Errno
}

// isZero reports whether all results but the error are zero values.
func (x outcome) isZero() bool {
	return len(x.b.Orders) == 0 && len(x.b.Queue) == 0 && x.b.Count == api.Count{} && x.others == [6]int{}
}

// outcomes calls all functions that take a book.
func outcomes(a arguments) []outcome {
	all := []outcome{{name: "CheckBook", e: orders.CheckBook(a.m, a.b)}}
	add := func(name string, b api.Book, others [6]int, e api.Errno) {
		all = append(all, outcome{name, b, others, e})
	}
	b, id, e := orders.Submit(a.m, a.b, a.pick, a.drop, a.now)
	add("Submit", b, [6]int{id}, e)
	b, e = orders.Cancel(a.m, a.b, a.id)
	add("Cancel", b, [6]int{}, e)
	b, id, e = orders.Assign(a.m, a.b)
	add("Assign", b, [6]int{id}, e)
	b, e = orders.Carry(a.m, a.b, a.id)
	add("Carry", b, [6]int{}, e)
	b, e = orders.Done(a.m, a.b, a.id, a.now)
	add("Done", b, [6]int{}, e)
	o, e := orders.Get(a.m, a.b, a.id)
	add("Get", api.Book{}, [6]int{o.Id, o.Pick, o.Drop, int(o.State), int(o.At), int(o.Done)}, e)
	totals, e := orders.Totals(a.m, a.b)
	add("Totals", api.Book{}, totals, e)
	return all
}

// wantOutcomes checks that all functions that take a book return an error and zero values.
func wantOutcomes(t *testing.T, what string, a arguments, wanted api.Errno) {
	t.Helper()
	for _, x := range outcomes(a) {
		if x.e != wanted || !x.isZero() {
			t.Errorf("%s of %s: %v, want the error %d and zero values", x.name, what, x, wanted)
		}
	}
}

// sameOutcomes reports whether all functions returned the same.
func sameOutcomes(some, others []outcome) bool {
	return slices.EqualFunc(some, others, func(x, y outcome) bool {
		return x.name == y.name && equalBooks(x.b, y.b) && x.others == y.others && x.e == y.e
	})
}

// P5.3, R1, R2: CheckBook's error comes first, ErrTeam before ErrBad, whatever the other arguments are.
func TestCheckBookComesFirst(t *testing.T) {
	good := arguments{account{exampleTeam(), exampleBook()}, 0, 0, 3, 20}
	worse := arguments{account{exampleTeam(), exampleBook()}, -1, 9, 0, api.MaxTick + 1}
	for _, a := range []arguments{good, worse} {
		for _, bad := range badBooks() {
			a.b = bad.b
			wantOutcomes(t, bad.what, a, api.ErrBad)
		}
		for _, bad := range badTeams() {
			a.m, a.b = bad.m, exampleBook()
			wantOutcomes(t, "a team with "+bad.what, a, api.ErrTeam)
			a.b.Queue = nil
			wantOutcomes(t, "a bad book for a team with "+bad.what, a, api.ErrTeam)
		}
	}
}

// R2: with an error all other results are zero values.
func TestErrorsHaveNoResults(t *testing.T) {
	for _, good := range goodAccounts() {
		for _, id := range someNumbers {
			for _, now := range someTicks {
				for _, x := range outcomes(arguments{good, id, id % 3, id, now}) {
					if x.e != api.OK && !x.isZero() {
						t.Errorf("%s: %v", x.name, x)
					}
				}
			}
		}
	}
}

// roomy returns a list with the same elements, and the longer array behind it.
func roomy[T any](l []T, more ...T) (part, behind []T) {
	behind = append(slices.Clone(l), more...)
	return behind[:len(l)], behind
}

// roomyAccount returns an account whose slices all have more capacity than length, and a function that returns copies of what is behind them.
func roomyAccount(a account) (roomyA account, behind func() (all []api.Order, numbers []int)) {
	list, allOrders := roomy(a.b.Orders, api.Order{Id: -1, State: 9}, api.Order{Id: -2, State: 8})
	queue, allQueue := roomy(a.b.Queue, -3, -4)
	homes, allHomes := roomy(a.m.Homes, -5, -6)
	picks, allPicks := roomy(a.m.Picks, -7)
	drops, allDrops := roomy(a.m.Drops, -8)
	a.b.Orders, a.b.Queue, a.m.Homes, a.m.Picks, a.m.Drops = list, queue, homes, picks, drops
	return a, func() ([]api.Order, []int) {
		return slices.Clone(allOrders), slices.Concat(allQueue, allHomes, allPicks, allDrops)
	}
}

// P1 (R3): arguments are only read, also behind their length, and what is there does not matter.
func TestArgumentsAreOnlyRead(t *testing.T) {
	for _, good := range goodAccounts() {
		for id := range 8 {
			a := arguments{good, 0, 0, id, 1000}
			before := outcomes(a)
			roomyA, behind := roomyAccount(good)
			list, numbers := behind()
			a.account = roomyA
			if !sameOutcomes(outcomes(a), before) {
				t.Errorf("a call depends on a capacity: %v", good)
			}
			listAfter, numbersAfter := behind()
			if !slices.Equal(list, listAfter) || !slices.Equal(numbers, numbersAfter) {
				t.Errorf("a call changed its arguments: %v", good)
			}
		}
	}
}

// spoil changes all orders and numbers of a book, also behind their length.
func spoil(b api.Book) {
	for i := range b.Orders[:cap(b.Orders)] {
		b.Orders[:cap(b.Orders)][i] = api.Order{Id: -9}
	}
	for i := range b.Queue[:cap(b.Queue)] {
		b.Queue[:cap(b.Queue)][i] = -9
	}
}

// P1 (R3): results share no memory with arguments, nor with one another, and nothing is kept from call to call.
func TestResultsAreNewMemory(t *testing.T) {
	for _, good := range goodAccounts() {
		for id := range 8 {
			roomyA, behind := roomyAccount(good)
			list, numbers := behind()
			a := arguments{roomyA, 0, 0, id, 1000}
			first, second := outcomes(a), outcomes(a)
			for _, x := range first {
				spoil(x.b)
			}
			listAfter, numbersAfter := behind()
			if !slices.Equal(list, listAfter) || !slices.Equal(numbers, numbersAfter) {
				t.Errorf("a result shares memory with an argument: %v", good)
			}
			if !sameOutcomes(outcomes(a), second) {
				t.Errorf("a result is kept: %v", good)
			}
		}
	}
}

// P1 (R3): the books of a history stay as they are when later ones are made of them.
func TestEarlierBooksStay(t *testing.T) {
	var books, copies []api.Book
	eachHistory(func(m api.Team, before api.Book, op operation, after result) {
		books, copies = append(books, after.b), append(copies, copied(after.b))
	})
	for i := range books {
		wantBook(t, "an earlier book", books[i], api.OK, copies[i], api.OK)
	}
	// Two books that are made of one are independent of each other.
	m, b := exampleTeam(), changed(exampleBook(), func(b *api.Book) { b.Orders[2].State, b.Queue = api.OrderDone, []int{6}; b.Orders[2].Done = 9 })
	first, _, e := orders.Submit(m, b, 0, 0, 20)
	wantErrno(t, "Submit", e, api.OK)
	second, _, e := orders.Submit(m, b, 1, 0, 21)
	wantErrno(t, "Submit", e, api.OK)
	if first.Orders[6].Pick != 0 || second.Orders[6].Pick != 1 {
		t.Errorf("%v and %v", first, second)
	}
}

// P1 (R4): nil and empty slices are the same.
func TestNilAndEmpty(t *testing.T) {
	none := arguments{account: account{exampleTeam(), api.Book{}}, now: 5}
	empty := none
	empty.b = api.Book{Orders: []api.Order{}, Queue: []int{}}
	if !sameOutcomes(outcomes(none), outcomes(empty)) {
		t.Error("a call depends on whether a slice is nil")
	}
	noQueue := arguments{account: account{exampleTeam(), api.Book{Orders: []api.Order{{Id: 1, State: api.OrderAssigned}}}}, id: 1}
	emptyQueue := noQueue
	emptyQueue.b.Queue = []int{}
	if !sameOutcomes(outcomes(noQueue), outcomes(emptyQueue)) {
		t.Error("a call depends on whether a queue is nil")
	}
	wantErrno(t, "CheckBook", orders.CheckBook(noQueue.m, noQueue.b), api.OK)
	for _, list := range [][]int{nil, {}} {
		m := exampleTeam()
		m.Picks = list
		wantErrno(t, "CheckBook for a team without picks", orders.CheckBook(m, api.Book{}), api.ErrTeam)
	}
}

// P1 (R7): no call panics or goes on for ever, whatever the arguments are.
func TestAnyArguments(t *testing.T) {
	numbers := append([]int{-1, 0, 1, 2, 3, 5, 8, 16, 64}, hugeNumbers...)
	draw := drawer(1)
	pick := func() int { return numbers[draw(len(numbers))] }
	tick := func() uint64 { return someTicks[draw(len(someTicks))] }
	for seed := range 3000 {
		a := arguments{drawnAccount(seed % 100), pick(), pick(), pick(), tick()}
		if seed%3 == 1 {
			a.m.Load, a.m.Queue, a.m.Quota, a.m.Window = pick(), pick(), pick(), pick()
		}
		if seed%3 == 2 {
			a.b.Count = api.Count{Window: tick(), Many: pick()}
			a.b.Queue = append(a.b.Queue, pick(), pick())
			a.b.Orders = append(a.b.Orders, api.Order{Id: pick(), Pick: pick(), Drop: pick(), State: uint8(pick()), At: tick(), Done: tick()})
		}
		for _, x := range outcomes(a) {
			if x.e != api.OK && !x.isZero() {
				t.Errorf("%s of %v: a result with the error %d", x.name, a, x.e)
			}
		}
	}
	many := arguments{account: account{largestTeam(), api.Book{Orders: make([]api.Order, 1<<16), Queue: make([]int, 1<<16)}}}
	wantOutcomes(t, "a very long book", many, api.ErrBad)
	many.m.Drops = make([]int, 1<<16)
	wantOutcomes(t, "a team with very many drops", many, api.ErrTeam)
}

package orders_test

import (
	"testing"

	"dunnage/api"
	"dunnage/orders"
)

// P5.4 to P5.9: in long histories all operations do what the chapter says.
func TestHistories(t *testing.T) {
	succeeded := map[int]int{}
	failed := map[api.Errno]int{}
	eachHistory(func(m api.Team, before api.Book, op operation, after result) {
		wanted := specRun(op, m, before)
		wantNumbered(t, "an operation", after.b, after.id, after.e, wanted.b, wanted.id, wanted.e)
		if after.e == api.OK {
			succeeded[op.kind]++
		}
		failed[after.e]++
	})
	for kind := submit; kind <= done; kind++ {
		if succeeded[kind] < 100 {
			t.Errorf("the operation %d succeeded %d times", kind, succeeded[kind])
		}
	}
	for _, e := range []api.Errno{api.ErrArg, api.ErrNone, api.ErrFull, api.ErrState, api.ErrQuota} {
		if failed[e] < 10 {
			t.Errorf("the error %d was returned %d times", e, failed[e])
		}
	}
}

// P5.6: orders pass through their states in one direction; each transition happens at most once.
func TestStatesHaveOneDirection(t *testing.T) {
	// A later state has a higher number, and OrderDone and OrderCancelled are the last ones.
	eachHistory(func(m api.Team, before api.Book, op operation, after result) {
		if after.e != api.OK {
			return
		}
		for i, o := range before.Orders {
			later := after.b.Orders[i]
			if o == later {
				continue
			}
			if o.State == api.OrderDone || o.State == api.OrderCancelled || later.State <= o.State {
				t.Errorf("%v becomes %v", o, later)
			}
			if later.State == api.OrderCancelled && o.State != api.OrderQueued || later.State < api.OrderCancelled && later.State != o.State+1 {
				t.Errorf("%v becomes %v", o, later)
			}
		}
	})
	// No order, in a book or not, ever gets back to a state that it had.
	eachOrder(func(o api.Order) {
		for _, state := range someStates {
			later, e := orders.Advance(o, state, 5)
			if e != api.OK {
				continue
			}
			if later.State != state || state <= o.State || o.State > api.OrderCarrying {
				t.Errorf("%v becomes %v", o, later)
			}
			_, e = orders.Advance(later, o.State, 6)
			wantErrno(t, "Advance back", e, api.ErrState)
			_, e = orders.Advance(later, state, 6)
			wantErrno(t, "Advance again", e, api.ErrState)
		}
	})
}

// P5.8: what is returned for a valid book is valid.
func TestBooksStayValid(t *testing.T) {
	eachHistory(func(m api.Team, before api.Book, op operation, after result) {
		if after.e == api.OK {
			wantErrno(t, "CheckBook", orders.CheckBook(m, after.b), api.OK)
			wantErrno(t, "the definition", specBook(m, after.b), api.OK)
		}
	})
	for _, a := range goodAccounts() {
		for kind := submit; kind <= done; kind++ {
			for id := range 66 {
				after := operation{kind: kind, id: id, now: api.MaxTick}.run(a.m, a.b)
				if after.e == api.OK {
					wantErrno(t, "CheckBook", orders.CheckBook(a.m, after.b), api.OK)
				}
			}
		}
	}
}

// P5.8: accepted orders are numbered 1, 2, 3 and so on; Assign returns ascending numbers and leaves out cancelled orders only.
func TestNumbersAscend(t *testing.T) {
	accepted, assigned := 0, 0
	eachHistory(func(m api.Team, before api.Book, op operation, after result) {
		if len(before.Orders) == 0 {
			accepted, assigned = 0, 0
		}
		if after.e != api.OK {
			return
		}
		switch op.kind {
		case submit:
			accepted++
			want(t, "Submit", after.id, after.e, accepted, api.OK)
		case assign:
			for id := assigned + 1; id < after.id; id++ {
				if state := before.Orders[id-1].State; state != api.OrderCancelled {
					t.Errorf("Assign leaves out %d, which has the state %d", id, state)
				}
			}
			if after.id <= assigned {
				t.Errorf("Assign returns %d after %d", after.id, assigned)
			}
			assigned = after.id
		}
	})
}

// P5.8: an operation changes only the order that it names, the queue and the count.
func TestOtherOrdersStay(t *testing.T) {
	eachHistory(func(m api.Team, before api.Book, op operation, after result) {
		if after.e != api.OK {
			return
		}
		for i, o := range before.Orders {
			if o.Id != after.id && after.b.Orders[i] != o {
				t.Errorf("the operation %v changes %v to %v", op, o, after.b.Orders[i])
			}
		}
		more := 0
		if op.kind == submit {
			more = 1
		} else if after.b.Count != before.Count {
			t.Errorf("the operation %v changes the count %v to %v", op, before.Count, after.b.Count)
		}
		if len(after.b.Orders) != len(before.Orders)+more {
			t.Errorf("the operation %v leaves %d orders of %d", op, len(after.b.Orders), len(before.Orders))
		}
	})
}

// P5.4: the 65th order is refused, whatever became of the others.
func TestAllOrders(t *testing.T) {
	m, b := largestTeam(), api.Book{}
	m.Window = 1
	for i := range 64 {
		after, id, e := orders.Submit(m, b, i%3, i/3%3, uint64(i))
		want(t, "Submit", id, e, i+1, api.OK)
		b = after
		if i%2 == 0 {
			b, e = orders.Cancel(m, b, id)
		} else {
			b, _, e = orders.Assign(m, b)
		}
		wantErrno(t, "Cancel or Assign", e, api.OK)
	}
	after, id, e := orders.Submit(m, b, 0, 0, 100)
	wantNumbered(t, "Submit", after, id, e, api.Book{}, 0, api.ErrMany)
	n, e := orders.Totals(m, b)
	want(t, "Totals", n, e, [6]int{64, 0, 32, 0, 0, 32}, api.OK)
}

// P5.9: without the calls that return errors, all later results are the same.
func TestErrorsLeaveNoTrace(t *testing.T) {
	for seed := range 20 {
		with, without := replay(t, seed, true), replay(t, seed, false)
		if len(with) != len(without) || len(with) < 10 {
			t.Fatalf("%d and %d results", len(with), len(without))
		}
		for i := range with {
			wantNumbered(t, "a result", with[i].b, with[i].id, with[i].e, without[i].b, without[i].id, without[i].e)
		}
	}
}

// replay returns the results of the operations of a history that succeed; calls that fail come in between, or do not.
func replay(t *testing.T, seed int, failing bool) []result {
	t.Helper()
	draw := drawer(seed)
	m, b := drawnTeam(draw), api.Book{}
	var results []result
	for step := range 120 {
		op := drawnOperation(draw, b, uint64(step*3))
		isGood := specRun(op, m, b).e == api.OK
		if !isGood && !failing {
			continue
		}
		after := op.run(m, b)
		if isGood {
			results = append(results, after)
			b = after.b
		} else if after.e == api.OK {
			t.Errorf("the operation %v succeeds", op)
		}
	}
	return results
}

package orders_test

import (
	"testing"

	"dunnage/api"
	"dunnage/orders"
)

// someTicks are ticks, and numbers that are none.
var someTicks = append([]uint64{0, 1, 7, 8, api.MaxTick - 1, api.MaxTick}, lateTicks...)

// someStates are states, and numbers that are none.
var someStates = []uint8{0, 1, 2, 3, 4, 5, 6, 7, 128, 254, 255}

// eachOrder calls a function with orders, of which some are valid.
func eachOrder(do func(o api.Order)) {
	for _, state := range someStates {
		for _, at := range someTicks {
			for _, done := range someTicks {
				do(api.Order{Id: 64, Pick: 2, Drop: 1, State: state, At: at, Done: done})
			}
		}
	}
	for _, n := range append([]int{-1, 0, 1, 2, 3, 63, 64, 65}, hugeNumbers...) {
		do(api.Order{Id: n, State: api.OrderAssigned})
		do(api.Order{Id: 1, Pick: n, State: api.OrderCarrying})
		do(api.Order{Id: 1, Drop: n, State: api.OrderDone, Done: 1})
	}
}

// P5.1: the examples of the chapter.
func TestOrderExamples(t *testing.T) {
	o, e := orders.New(1, 0, 2, 7)
	want(t, "New", o, e, api.Order{Id: 1, Pick: 0, Drop: 2, State: api.OrderQueued, At: 7}, api.OK)
	for _, a := range []struct {
		id, pick, drop int
		now            uint64
	}{{0, 0, 0, 0}, {65, 0, 0, 0}, {1, 3, 0, 0}, {1, 0, 0, 1<<62 + 1}} {
		bad, e := orders.New(a.id, a.pick, a.drop, a.now)
		want(t, "New", bad, e, api.Order{}, api.ErrArg)
	}
	for _, a := range []struct {
		state uint8
		want  api.Errno
	}{{api.OrderCarrying, api.ErrState}, {api.OrderDone, api.ErrArg}, {6, api.ErrArg}} {
		bad, e := orders.Advance(o, a.state, 0)
		want(t, "Advance", bad, e, api.Order{}, a.want)
	}
	o, e = orders.Advance(o, api.OrderAssigned, 0)
	want(t, "Advance", o, e, api.Order{Id: 1, Drop: 2, State: api.OrderAssigned, At: 7}, api.OK)
	o, e = orders.Advance(o, api.OrderCarrying, 8)
	want(t, "Advance", o, e, api.Order{Id: 1, Drop: 2, State: api.OrderCarrying, At: 7}, api.OK)
	o, e = orders.Advance(o, api.OrderDone, 9)
	want(t, "Advance", o, e, api.Order{Id: 1, Drop: 2, State: api.OrderDone, At: 7, Done: 9}, api.OK)
	o, e = orders.Advance(o, api.OrderQueued, 10)
	want(t, "Advance", o, e, api.Order{}, api.ErrState)
}

// P5.1: New returns a queued order just for numbers in their ranges.
func TestNew(t *testing.T) {
	numbers := append([]int{-2, -1, 0, 1, 2, 3, 4, 63, 64, 65}, hugeNumbers...)
	for _, id := range numbers {
		for _, pick := range numbers {
			for _, drop := range numbers {
				for _, now := range someTicks {
					o, e := orders.New(id, pick, drop, now)
					wanted, wantE := specNew(id, pick, drop, now)
					want(t, "New", o, e, wanted, wantE)
				}
			}
		}
	}
}

// P5.1: Check returns ErrBad unless an order is valid.
func TestCheck(t *testing.T) {
	valid := 0
	eachOrder(func(o api.Order) {
		wanted := api.ErrBad
		if specOrder(o) {
			wanted = api.OK
			valid++
		}
		if e := orders.Check(o); e != wanted {
			t.Errorf("Check of %v: %d, want %d", o, e, wanted)
		}
	})
	if valid < 50 {
		t.Errorf("%d valid orders", valid)
	}
	// Done may be before At.
	wantErrno(t, "Check", orders.Check(api.Order{Id: 1, State: api.OrderDone, At: api.MaxTick, Done: 1}), api.OK)
	wantErrno(t, "Check of nothing", orders.Check(api.Order{}), api.ErrBad)
}

// P5.1: Advance follows the transitions, and no others.
func TestAdvance(t *testing.T) {
	eachOrder(func(o api.Order) {
		for _, state := range someStates {
			for _, now := range someTicks {
				got, e := orders.Advance(o, state, now)
				wanted, wantE := specAdvance(o, state, now)
				if got != wanted || e != wantE {
					t.Errorf("Advance of %v to %d at %d: %v, %d, want %v, %d", o, state, now, got, e, wanted, wantE)
				}
			}
		}
	})
}

// P5.1, R1: Check's error comes before ErrArg, and that before ErrState.
func TestOrderOfErrorsOfAdvance(t *testing.T) {
	bad := api.Order{Id: 65, State: api.OrderDone, Done: 3}
	_, e := orders.Advance(bad, 6, api.MaxTick+1)
	wantErrno(t, "an invalid order, and the state 6", e, api.ErrBad)
	over := api.Order{Id: 64, State: api.OrderDone, Done: 3}
	for _, state := range []uint8{api.OrderQueued, api.OrderAssigned, api.OrderDone} {
		_, e = orders.Advance(over, state, api.MaxTick+1)
		wantErrno(t, "a completed order, and a late tick", e, api.ErrArg)
	}
	_, e = orders.Advance(over, api.OrderDone, 0)
	wantErrno(t, "a completed order, and the tick 0", e, api.ErrArg)
	_, e = orders.Advance(over, api.OrderQueued, 0)
	wantErrno(t, "a completed order", e, api.ErrState)
}

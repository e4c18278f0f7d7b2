package traffic_test

import (
	"math"
	"slices"
	"sync"
	"testing"

	"dunnage/api"
	"dunnage/traffic"
)

// hugeNumbers are far out of each range, and so chosen that a conversion to fewer bits, or a sum, would bring them back.
var hugeNumbers = []int{math.MinInt, math.MinInt + 1, -1 << 32, -256, 256, 257, 1 << 32, 1<<32 + 1, 1 << 62, math.MaxInt - 1, math.MaxInt}

// lateTicks are beyond MaxLook.
var lateTicks = []uint64{api.MaxLook + 1, 1 << 63, math.MaxUint64 - 1, math.MaxUint64}

// wantErrno checks an error number.
func wantErrno(t *testing.T, what string, got, wanted api.Errno) {
	t.Helper()
	if got != wanted {
		t.Errorf("%s: error %d, want %d", what, got, wanted)
	}
}

// wantList checks a list and an error number; nil and empty lists are the same.
func wantList[T comparable](t *testing.T, what string, got []T, e api.Errno, wanted []T, wantE api.Errno) {
	t.Helper()
	if !slices.Equal(got, wanted) || e != wantE {
		t.Errorf("%s: %v, %d, want %v, %d", what, got, e, wanted, wantE)
	}
}

// equalCrews reports whether two crews are equal.
func equalCrews(a, b api.Crew) bool {
	return slices.Equal(a.Robots, b.Robots) && a.Mover == b.Mover &&
		slices.Equal(a.Book.Orders, b.Book.Orders) && slices.Equal(a.Book.Queue, b.Book.Queue) && a.Book.Count == b.Book.Count
}

// equalFleets reports whether two fleets are equal.
func equalFleets(a, b api.Fleet) bool {
	return slices.EqualFunc(a.Crews, b.Crews, equalCrews) && slices.Equal(a.Claims, b.Claims) && a.Tick == b.Tick
}

// copied returns a fleet that shares no memory with another one.
func copied(f api.Fleet) api.Fleet {
	f.Crews, f.Claims = slices.Clone(f.Crews), slices.Clone(f.Claims)
	for t, w := range f.Crews {
		w.Robots, w.Book.Orders, w.Book.Queue = slices.Clone(w.Robots), slices.Clone(w.Book.Orders), slices.Clone(w.Book.Queue)
		f.Crews[t] = w
	}
	return f
}

// changed returns a copy of a fleet after a change.
func changed(f api.Fleet, change func(f *api.Fleet)) api.Fleet {
	f = copied(f)
	change(&f)
	return f
}

// newFleet returns the fleet that New returns for a config.
func newFleet(t *testing.T, c api.Config) api.Fleet {
	t.Helper()
	f, e := traffic.New(c)
	wantErrno(t, "New", e, api.OK)
	return f
}

// positionsOf returns the positions of the robots of a fleet.
func positionsOf(t *testing.T, c api.Config, f api.Fleet) []api.Position {
	t.Helper()
	l, e := traffic.Positions(c, f)
	wantErrno(t, "Positions", e, api.OK)
	return l
}

// Kinds of actions.
const (
	submit = iota
	cancel
	stall
	step
)

// action is a call of a function that changes a fleet: n is the number of an order or of a robot.
type action struct {
	kind, t, pick, drop, n int
}

// result is what an action returns: a fleet, the number of an order, and the orders that are done.
type result struct {
	f    api.Fleet
	id   int
	done []api.Finish
	e    api.Errno
}

// run calls the action's function.
func (a action) run(c api.Config, f api.Fleet) result {
	var r result
	switch a.kind {
	case submit:
		r.f, r.id, r.e = traffic.Submit(c, f, a.t, a.pick, a.drop)
	case cancel:
		r.f, r.e = traffic.Cancel(c, f, a.t, a.n)
	case stall:
		r.f, r.e = traffic.Stall(c, f, a.t, a.n)
	default:
		r.f, r.done, r.e = traffic.Step(c, f)
	}
	return r
}

// sameResult reports whether two results are the same.
func sameResult(a, b result) bool {
	return equalFleets(a.f, b.f) && a.id == b.id && slices.Equal(a.done, b.done) && a.e == b.e
}

// wantResult checks what an action returned.
func wantResult(t *testing.T, what string, got, wanted result) {
	t.Helper()
	if !sameResult(got, wanted) {
		t.Errorf("%s: %v, want %v", what, got, wanted)
	}
}

// after returns the fleet after actions that have to succeed.
func after(t *testing.T, c api.Config, f api.Fleet, actions ...action) api.Fleet {
	t.Helper()
	for _, a := range actions {
		r := a.run(c, f)
		if r.e != api.OK {
			t.Fatalf("the action %v of %v: error %d", a, f, r.e)
		}
		f = r.f
	}
	return f
}

// drawer returns a function that draws numbers below a limit, the same ones in each run.
func drawer(seed int) func(limit int) int {
	x := uint32(seed)*2654435761 + 1
	return func(limit int) int {
		x = x*1664525 + 1013904223
		return int(x>>16) % limit
	}
}

// moment is an action of a history: the fleet before it, and what it returned.
type moment struct {
	before api.Fleet
	a      action
	after  result
}

// history calls a function with drawn actions, one after the other, from a fleet on.
func history(c api.Config, f api.Fleet, seed, many int, do func(m moment)) {
	draw := drawer(seed)
	for range many {
		a := drawnAction(draw, f)
		m := moment{f, a, a.run(c, f)}
		do(m)
		if m.after.e == api.OK {
			f = m.after.f
		}
	}
}

// drawnAction returns an action that is likely to succeed.
func drawnAction(draw func(limit int) int, f api.Fleet) action {
	a := action{kind: step, t: draw(len(f.Crews)), pick: draw(2), drop: draw(2)}
	w := f.Crews[a.t]
	switch draw(14) {
	case 0, 1:
		// The book has room for few orders, so that none is submitted in some times.
		if len(w.Book.Orders) < 40 || draw(4) == 0 {
			a.kind = submit
		}
	case 2:
		a.kind, a.n = stall, draw(3)
		if w.Mover >= 0 && draw(3) > 0 {
			a.n = w.Mover
		}
	case 3:
		a.kind, a.n = cancel, draw(len(w.Book.Orders)+2)
		if len(w.Book.Queue) > 0 && draw(3) > 0 {
			a.n = w.Book.Queue[draw(len(w.Book.Queue))]
		}
	}
	return a
}

// longHistory is a history of a config, from a new fleet on.
type longHistory struct {
	c       api.Config
	moments []moment
}

// longHistories returns histories of all sound configs, from their Start on, from a late tick on, and up to the last one.
var longHistories = sync.OnceValue(func() []longHistory {
	var all []longHistory
	for i, c := range soundConfigs() {
		for j, first := range []uint64{c.Start, 1<<50 + 3, api.MaxTick - 70} {
			c.Start = first
			x := longHistory{c: c}
			history(c, idleFleet(c), i*5+j, 200, func(m moment) { x.moments = append(x.moments, m) })
			all = append(all, x)
		}
	}
	return all
})

// eachMoment calls a function with all actions of long histories.
func eachMoment(do func(c api.Config, m moment)) {
	for _, x := range longHistories() {
		for _, m := range x.moments {
			do(x.c, m)
		}
	}
}

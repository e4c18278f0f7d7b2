package crew_test

import (
	"math"
	"slices"
	"testing"

	"dunnage/api"
	"dunnage/crew"
)

// hugeNumbers are far out of each range, and so chosen that a conversion to fewer bits, or a sum, would bring them back.
var hugeNumbers = []int{math.MinInt, math.MinInt + 1, -1 << 32, -256, 256, 257, 1 << 32, 1<<32 + 1, 1 << 62, math.MaxInt - 1, math.MaxInt}

// lateTicks are beyond MaxTick.
var lateTicks = []uint64{api.MaxTick + 1, api.MaxTick + 6, api.MaxLook, 1 << 63, math.MaxUint64 - 1, math.MaxUint64}

// wantErrno checks an error number.
func wantErrno(t *testing.T, what string, got, wanted api.Errno) {
	t.Helper()
	if got != wanted {
		t.Errorf("%s: error %d, want %d", what, got, wanted)
	}
}

// want checks a result and an error number.
func want[T comparable](t *testing.T, what string, got T, e api.Errno, wanted T, wantE api.Errno) {
	t.Helper()
	if got != wanted || e != wantE {
		t.Errorf("%s: %v, %d, want %v, %d", what, got, e, wanted, wantE)
	}
}

// wantResult checks what an action returned.
func wantResult(t *testing.T, what string, got, wanted result) {
	t.Helper()
	if !sameResult(got, wanted) {
		t.Errorf("%s: %v, want %v", what, got, wanted)
	}
}

// equalCrews reports whether two crews are equal; nil and empty lists are the same.
func equalCrews(a, b api.Crew) bool {
	return slices.Equal(a.Robots, b.Robots) && a.Mover == b.Mover &&
		slices.Equal(a.Book.Orders, b.Book.Orders) && slices.Equal(a.Book.Queue, b.Book.Queue) && a.Book.Count == b.Book.Count
}

// copied returns a crew that shares no memory with another one.
func copied(w api.Crew) api.Crew {
	w.Robots, w.Book.Orders, w.Book.Queue = slices.Clone(w.Robots), slices.Clone(w.Book.Orders), slices.Clone(w.Book.Queue)
	return w
}

// changed returns a copy of a crew after a change.
func changed(w api.Crew, change func(w *api.Crew)) api.Crew {
	w = copied(w)
	change(&w)
	return w
}

// newCrew returns the crew that New returns for a scene.
func newCrew(t *testing.T, x scene) api.Crew {
	t.Helper()
	w, e := crew.New(x.c, x.t)
	wantErrno(t, "New", e, api.OK)
	return w
}

// Kinds of actions.
const (
	submit = iota
	cancel
	stall
	begin
	work
	move
	step
)

// kinds are all kinds of actions.
var kinds = []int{submit, cancel, stall, begin, work, move, step}

// action is a call of a function that changes a crew: n is the number of an order or of a robot.
type action struct {
	kind, pick, drop, n int
}

// result is what an action returns: a crew, the number of an order, and the orders that are done.
type result struct {
	w    api.Crew
	id   int
	done []int
	e    api.Errno
}

// sameResult reports whether two results are the same.
func sameResult(a, b result) bool {
	return equalCrews(a.w, b.w) && a.id == b.id && slices.Equal(a.done, b.done) && a.e == b.e
}

// run calls the action's function at a tick.
func (a action) run(x scene, w api.Crew, tick uint64) result {
	var r result
	switch a.kind {
	case submit:
		r.w, r.id, r.e = crew.Submit(x.c, x.t, w, a.pick, a.drop, tick)
	case cancel:
		r.w, r.e = crew.Cancel(x.c, x.t, w, a.n, tick)
	case stall:
		r.w, r.e = crew.Stall(x.c, x.t, w, a.n, tick)
	case begin:
		r.w, r.e = crew.Begin(x.c, x.t, w, tick)
	case work:
		r.w, r.done, r.e = crew.Work(x.c, x.t, w, tick)
	case move:
		r.w, r.e = crew.Move(x.c, x.t, w, tick)
	default:
		r.w, r.done, r.e = crew.Step(x.c, x.t, w, tick)
	}
	return r
}

// after returns the crew after actions that have to succeed, all of them at one tick.
func after(t *testing.T, x scene, w api.Crew, tick uint64, actions ...action) api.Crew {
	t.Helper()
	for _, a := range actions {
		r := a.run(x, w, tick)
		if r.e != api.OK {
			t.Fatalf("the action %v of %v at the tick %d: error %d", a, w, tick, r.e)
		}
		w = r.w
	}
	return w
}

// stepped returns the crew after some ticks, from a first one on, and the orders that are done by them.
func stepped(t *testing.T, x scene, w api.Crew, first uint64, many int) (api.Crew, []int) {
	t.Helper()
	var done []int
	for i := range many {
		r := action{kind: step}.run(x, w, first+uint64(i))
		if r.e != api.OK {
			t.Fatalf("Step of %v at the tick %d: error %d", w, first+uint64(i), r.e)
		}
		w, done = r.w, append(done, r.done...)
	}
	return w, done
}

// drawer returns a function that draws numbers below a limit, the same ones in each run.
func drawer(seed int) func(limit int) int {
	x := uint32(seed)*2654435761 + 1
	return func(limit int) int {
		x = x*1664525 + 1013904223
		return int(x>>16) % limit
	}
}

// moment is an action of a history: the crew before it, the tick, and what it returned.
type moment struct {
	before api.Crew
	tick   uint64
	a      action
	after  result
}

// isTick reports whether the action leads to the next tick.
func (x moment) isTick() bool { return x.a.kind == step || x.a.kind == move }

// history calls a function with drawn actions of a scene, one after the other, from a new crew on. A wild history has parts of ticks in any order, a tame one has whole ticks only.
func (x scene) history(t *testing.T, seed int, isWild bool, first uint64, many int, do func(m moment)) {
	t.Helper()
	draw := drawer(seed)
	w, tick := newCrew(t, x), first
	for range many {
		a := x.drawnAction(draw, w, isWild)
		r := a.run(x, w, tick)
		m := moment{w, tick, a, r}
		do(m)
		if r.e != api.OK {
			continue
		}
		w = r.w
		if m.isTick() && tick < api.MaxTick {
			tick++
		}
	}
}

// drawnAction returns an action that is likely to succeed.
func (x scene) drawnAction(draw func(limit int) int, w api.Crew, isWild bool) action {
	m := x.c.Teams[x.t]
	a := action{kind: step}
	if isWild {
		a.kind = begin + draw(4)
	}
	switch draw(12) {
	case 0, 1:
		a = action{kind: submit, pick: draw(len(m.Picks)), drop: draw(len(m.Drops))}
	case 2:
		a = action{kind: stall, n: draw(len(m.Homes))}
	case 3:
		a = action{kind: cancel, n: draw(len(w.Book.Orders) + 2)}
		if len(w.Book.Queue) > 0 && draw(3) > 0 {
			a.n = w.Book.Queue[draw(len(w.Book.Queue))]
		}
	}
	if a.kind == submit && draw(20) == 0 {
		a.pick, a.drop = draw(5)-1, draw(5)-1
	}
	if a.kind == stall && draw(20) == 0 {
		a.n = draw(6) - 1
	}
	// The book has room for few orders, so that none is submitted in some times.
	if a.kind == submit && len(w.Book.Orders) > 40 && draw(4) > 0 {
		a = action{kind: step}
	}
	return a
}

// eachHistory calls a function with the actions of histories of all scenes; start is called before each of them.
func eachHistory(t *testing.T, isWild bool, start func(x scene), do func(x scene, m moment)) {
	t.Helper()
	for i, x := range allScenes() {
		for j, first := range []uint64{0, 5, 1<<40 + 3, api.MaxTick - 60} {
			start(x)
			x.history(t, i*7+j, isWild, first, 220, func(m moment) { do(x, m) })
		}
	}
}

package crew_test

import (
	"slices"
	"testing"

	"dunnage/api"
	"dunnage/crew"
)

// arguments is what the functions that take a crew take.
type arguments struct {
	x             scene
	w             api.Crew
	pick, drop, n int
	tick          uint64
}

// outcome is what a function returned: a crew, or other results as numbers and sights, and the error.
type outcome struct {
	name   string
	result result
	sights []api.Sight
	isZero bool
}

// outcomes calls all functions that take a crew.
func outcomes(a arguments) []outcome {
	var all []outcome
	add := func(name string, r result, sights []api.Sight) {
		isZero := equalCrews(r.w, api.Crew{}) && r.id == 0 && len(r.done) == 0 && len(sights) == 0
		all = append(all, outcome{name, r, sights, isZero})
	}
	add("Check", result{e: crew.Check(a.x.c, a.x.t, a.w, a.tick)}, nil)
	for i, name := range []string{"Submit", "Cancel", "Stall", "Begin", "Work", "Move", "Step"} {
		add(name, action{kinds[i], a.pick, a.drop, a.n}.run(a.x, a.w, a.tick), nil)
	}
	truth := map[bool]int{true: 1}
	is, e := crew.Stalled(a.x.c, a.x.t, a.w, a.tick)
	add("Stalled", result{id: truth[is], e: e}, nil)
	is, e = crew.Rest(a.x.c, a.x.t, a.w, a.tick)
	add("Rest", result{id: truth[is], e: e}, nil)
	p, e := crew.Goal(a.x.c, a.x.t, a.w, a.n, a.tick)
	add("Goal", result{id: p, e: e}, nil)
	sights, queued, e := crew.View(a.x.c, a.x.t, a.w, a.tick)
	add("View", result{id: queued, e: e}, sights)
	return all
}

// sameOutcomes reports whether all functions returned the same.
func sameOutcomes(some, others []outcome) bool {
	return slices.EqualFunc(some, others, func(a, b outcome) bool {
		return a.name == b.name && sameResult(a.result, b.result) && slices.Equal(a.sights, b.sights)
	})
}

// wantOutcomes checks that all functions that take a crew return an error and zero values.
func wantOutcomes(t *testing.T, what string, a arguments, wanted api.Errno) {
	t.Helper()
	for _, x := range outcomes(a) {
		if x.result.e != wanted || !x.isZero {
			t.Errorf("%s of %s: %v, %v, want the error %d and zero values", x.name, what, x.result, x.sights, wanted)
		}
	}
}

// The arguments of which the following tests change one are good: only Cancel and Goal return errors.
func TestGoodArguments(t *testing.T) {
	for _, x := range outcomes(arguments{x: crowdScene(), w: busyCrew(), n: 1, tick: busyTick}) {
		switch x.name {
		case "Cancel":
			wantErrno(t, x.name, x.result.e, api.ErrState)
		case "Goal":
			wantErrno(t, x.name, x.result.e, api.ErrNone)
		default:
			wantErrno(t, x.name, x.result.e, api.OK)
		}
	}
}

// P8.1 to P8.4, R1, R2: Check's error comes first: config.Check's, then ErrArg, then ErrBad, whatever the other arguments are.
func TestCheckComesFirst(t *testing.T) {
	for _, others := range []arguments{{}, {pick: -1, drop: 9, n: 7}, {n: -1}} {
		for _, bad := range badConfigs() {
			a := others
			a.x, a.w = scene{bad.c, 0}, newCrew(t, exampleScene())
			wantOutcomes(t, bad.what, a, bad.e)
			a.x.t, a.w, a.tick = 9, api.Crew{}, api.MaxTick+1
			wantOutcomes(t, bad.what+", and bad arguments", a, bad.e)
		}
		a := others
		for _, tick := range lateTicks {
			a.x, a.w, a.tick = crowdScene(), busyCrew(), tick
			wantOutcomes(t, "a late tick", a, api.ErrArg)
			a.w = api.Crew{}
			wantOutcomes(t, "a late tick, and a bad crew", a, api.ErrArg)
		}
		for _, tenant := range append([]int{-2, -1, 3, 4, 255}, hugeNumbers...) {
			a.x, a.w, a.tick = scene{crowdScene().c, tenant}, busyCrew(), busyTick
			wantOutcomes(t, "no tenant", a, api.ErrArg)
		}
		a.x, a.w = scene{gapScene().c, 1}, api.Crew{Mover: -1}
		wantOutcomes(t, "an absent tenant", a, api.ErrArg)
		a.x = crowdScene()
		for _, v := range badVariants() {
			a.w, a.tick = v.w, v.tick
			wantOutcomes(t, v.what, a, api.ErrBad)
		}
		a.w, a.tick = api.Crew{}, api.MaxTick
		wantOutcomes(t, "a bad crew at MaxTick", a, api.ErrBad)
	}
}

// R2: with an error all other results are zero values.
func TestErrorsHaveNoResults(t *testing.T) {
	failed := map[string]int{}
	for i, s := range goodSamples(t) {
		for _, tick := range []uint64{s.tick, s.tick + 1, api.MaxTick} {
			for _, x := range outcomes(arguments{s.x, s.w, i%4 - 1, i % 3, i%7 - 1, tick}) {
				if x.result.e != api.OK && !x.isZero {
					t.Errorf("%s: %v, %v", x.name, x.result, x.sights)
				}
				if x.result.e != api.OK {
					failed[x.name]++
				}
			}
		}
	}
	for _, name := range []string{"Submit", "Cancel", "Stall", "Goal", "Begin", "Work", "Move", "Step"} {
		if failed[name] < 20 {
			t.Errorf("%s failed %d times", name, failed[name])
		}
	}
}

// roomy returns a list with the same elements, and the longer array behind it.
func roomy[T any](l []T, more ...T) (part, behind []T) {
	behind = append(slices.Clone(l), more...)
	return behind[:len(l)], behind
}

// memory is what is behind the slices of a config and of a crew.
type memory struct {
	robots []api.Robot
	orders []api.Order
	places []int
	values []uint8
}

// equals reports whether two memories have the same.
func (m memory) equals(n memory) bool {
	return slices.Equal(m.robots, n.robots) && slices.Equal(m.orders, n.orders) && slices.Equal(m.places, n.places) && slices.Equal(m.values, n.values)
}

// roomySample returns a sample whose slices all have more capacity than length, and a function that returns copies of what is behind them.
func roomySample(s sample) (roomyS sample, behind func() memory) {
	robots, allRobots := roomy(s.w.Robots, api.Robot{Place: -1}, api.Robot{State: 77})
	list, allOrders := roomy(s.w.Book.Orders, api.Order{Id: -2}, api.Order{State: 88})
	queue, allQueue := roomy(s.w.Book.Queue, -3, -4)
	cells, allCells := roomy(s.x.c.Floor.Cells, 1, 255, 77)
	entries, allEntries := roomy(s.x.c.Slices, 1, 9)
	lists := [][]int{allQueue}
	teams := slices.Clone(s.x.c.Teams)
	for t := range teams {
		for _, l := range []*[]int{&teams[t].Homes, &teams[t].Picks, &teams[t].Drops} {
			part, all := roomy(*l, 5, -6)
			*l = part
			lists = append(lists, all)
		}
	}
	s.w.Robots, s.w.Book.Orders, s.w.Book.Queue = robots, list, queue
	s.x.c.Floor.Cells, s.x.c.Slices, s.x.c.Teams = cells, entries, teams
	return s, func() memory {
		return memory{slices.Clone(allRobots), slices.Clone(allOrders), slices.Concat(lists...), slices.Concat(allCells, allEntries)}
	}
}

// spoil changes all that a result has, also behind its length.
func spoil(x outcome) {
	for i := range x.result.w.Robots[:cap(x.result.w.Robots)] {
		x.result.w.Robots[:cap(x.result.w.Robots)][i] = api.Robot{Place: -9}
	}
	for i := range x.result.w.Book.Orders[:cap(x.result.w.Book.Orders)] {
		x.result.w.Book.Orders[:cap(x.result.w.Book.Orders)][i] = api.Order{Id: -9}
	}
	for i := range x.result.w.Book.Queue[:cap(x.result.w.Book.Queue)] {
		x.result.w.Book.Queue[:cap(x.result.w.Book.Queue)][i] = -9
	}
	for i := range x.result.done[:cap(x.result.done)] {
		x.result.done[:cap(x.result.done)][i] = -9
	}
	for i := range x.sights[:cap(x.sights)] {
		x.sights[:cap(x.sights)][i] = api.Sight{Place: -9}
	}
}

// P1 (R3): arguments are only read, also behind their length, and what is there does not matter; results share no memory with them, nor with one another, and nothing is kept from call to call.
func TestMemoryIsNotShared(t *testing.T) {
	for i, s := range goodSamples(t) {
		n := i % 4
		if len(s.w.Book.Queue) > 0 && i%3 > 0 {
			n = s.w.Book.Queue[0]
		}
		before := outcomes(arguments{s.x, s.w, 0, 0, n, s.tick})
		roomyS, behind := roomySample(s)
		all := behind()
		a := arguments{roomyS.x, roomyS.w, 0, 0, n, s.tick}
		first, second := outcomes(a), outcomes(a)
		if !sameOutcomes(first, before) {
			t.Errorf("a call depends on a capacity: %v", s)
		}
		if !behind().equals(all) {
			t.Errorf("a call changed its arguments: %v", s)
		}
		for _, x := range first {
			spoil(x)
		}
		if !behind().equals(all) {
			t.Errorf("a result shares memory with an argument: %v", s)
		}
		if !sameOutcomes(second, before) || !sameOutcomes(outcomes(a), before) {
			t.Errorf("results share memory, or are kept: %v", s)
		}
	}
}

// P1 (R3): new crews share no memory with their config, nor with one another.
func TestNewCrewsAreApart(t *testing.T) {
	x := crowdScene()
	first, second := newCrew(t, x), newCrew(t, x)
	first.Robots[0].Place, first.Robots[2].State = -1, 9
	if x.c.Teams[1].Homes[0] != 24 || second.Robots[0].Place != 24 || second.Robots[2].State != 0 {
		t.Errorf("%v and %v of %v", first, second, x.c.Teams[1])
	}
}

// P1 (R3): two crews that are made of one are independent of each other, and the crews of a history stay as they are.
func TestEarlierCrewsStay(t *testing.T) {
	var crews, copies []api.Crew
	eachHistory(t, true, func(x scene) {}, func(x scene, m moment) {
		crews, copies = append(crews, m.after.w), append(copies, copied(m.after.w))
	})
	for i := range crews {
		if !equalCrews(crews[i], copies[i]) {
			t.Fatalf("an earlier crew: %v, want %v", crews[i], copies[i])
		}
	}
	x := crowdScene()
	first := after(t, x, busyCrew(), busyTick, action{submit, 0, 0, 0})
	second := after(t, x, busyCrew(), busyTick, action{submit, 1, 1, 0})
	if first.Book.Orders[7].Pick != 0 || second.Book.Orders[7].Pick != 1 {
		t.Errorf("%v and %v", first, second)
	}
}

// P1 (R2): a call that returns an error has no effect on later ones.
func TestErrorsLeaveNoTrace(t *testing.T) {
	x := crowdScene()
	a := arguments{x: x, w: busyCrew(), n: 1, tick: busyTick}
	before := outcomes(a)
	for _, v := range badVariants() {
		outcomes(arguments{x: x, w: v.w, pick: 9, n: 9, tick: v.tick})
		if !sameOutcomes(outcomes(a), before) {
			t.Errorf("after %s all is different", v.what)
		}
	}
}

// P1 (R4): nil and empty slices are the same.
func TestNilAndEmpty(t *testing.T) {
	x := gapScene()
	none := arguments{x: x, w: newCrew(t, x), tick: 3}
	none.w.Book.Orders, none.w.Book.Queue = nil, nil
	empty := none
	empty.w.Book = api.Book{Orders: []api.Order{}, Queue: []int{}}
	empty.x.c.Teams = slices.Clone(x.c.Teams)
	empty.x.c.Teams[1] = api.Team{Homes: []int{}, Picks: []int{}, Drops: []int{}}
	if !sameOutcomes(outcomes(none), outcomes(empty)) {
		t.Error("a call depends on whether a slice is nil")
	}
	for _, robots := range [][]api.Robot{nil, {}} {
		a := none
		a.w.Robots = robots
		wantOutcomes(t, "a crew without robots", a, api.ErrBad)
	}
}

// P1 (R5, R7): no call panics or goes on for ever, whatever the arguments are.
func TestAnyArguments(t *testing.T) {
	numbers := append([]int{-1, 0, 1, 2, 3, 5, 8, 24, 33, 64}, hugeNumbers...)
	ticks := append([]uint64{0, 1, busyTick, api.MaxTick - 1, api.MaxTick}, lateTicks...)
	draw := drawer(1)
	pick := func() int { return numbers[draw(len(numbers))] }
	for range 4000 {
		a := arguments{crowdScene(), busyCrew(), pick(), pick(), pick(), ticks[draw(len(ticks))]}
		for range draw(3) {
			r := &a.w.Robots[draw(3)]
			*r = api.Robot{Place: pick(), State: uint8(pick()), Order: pick(), Left: pick(), Stall: pick(), Due: draw(2) == 0}
		}
		switch draw(6) {
		case 0:
			a.w.Mover = pick()
		case 1:
			a.w.Book.Orders[draw(7)] = api.Order{Id: pick(), Pick: pick(), Drop: pick(), State: uint8(pick())}
		case 2:
			a.w.Book.Queue[draw(2)], a.w.Book.Count.Many = pick(), pick()
		case 3:
			a.x.c.Floor.W, a.x.c.Teams[1].Homes[0], a.x.c.Teams[1].Load = pick(), pick(), pick()
		case 4:
			a.x.t = pick()
		}
		for _, x := range outcomes(a) {
			if x.result.e != api.OK && !x.isZero {
				t.Errorf("%s of %v: a result with the error %d", x.name, a, x.result.e)
			}
		}
		crew.Same(a.w, busyCrew())
	}
	many := arguments{x: crowdScene(), w: busyCrew(), tick: busyTick}
	many.w.Robots = make([]api.Robot, 1<<16)
	wantOutcomes(t, "very many robots", many, api.ErrBad)
	many.w = busyCrew()
	many.w.Book = api.Book{Orders: make([]api.Order, 1<<16), Queue: make([]int, 1<<16)}
	wantOutcomes(t, "a very long book", many, api.ErrBad)
}

package traffic_test

import (
	"slices"
	"testing"

	"dunnage/api"
	"dunnage/traffic"
)

// arguments is what the functions that take a fleet take.
type arguments struct {
	c                api.Config
	f                api.Fleet
	t, pick, drop, n int
}

// outcome is what a function returned: a fleet and the like, or other results as numbers.
type outcome struct {
	name    string
	result  result
	numbers []int
	robots  []api.Position
}

// outcomes calls all functions that take a fleet.
func outcomes(a arguments) []outcome {
	all := []outcome{{name: "Check", result: result{e: traffic.Check(a.c, a.f)}}}
	for kind, name := range []string{"Submit", "Cancel", "Stall", "Step"} {
		all = append(all, outcome{name: name, result: action{kind, a.t, a.pick, a.drop, a.n}.run(a.c, a.f)})
	}
	places, e := traffic.Plan(a.c, a.f, a.t)
	all = append(all, outcome{name: "Plan", result: result{e: e}, numbers: places})
	robots, e := traffic.Positions(a.c, a.f)
	return append(all, outcome{name: "Positions", result: result{e: e}, robots: robots})
}

// isZero reports whether an outcome has nothing but an error.
func (x outcome) isZero() bool {
	return sameResult(x.result, result{e: x.result.e}) && len(x.numbers) == 0 && len(x.robots) == 0
}

// sameOutcomes reports whether all functions returned the same.
func sameOutcomes(some, others []outcome) bool {
	return slices.EqualFunc(some, others, func(a, b outcome) bool {
		return a.name == b.name && sameResult(a.result, b.result) && slices.Equal(a.numbers, b.numbers) && slices.Equal(a.robots, b.robots)
	})
}

// wantOutcomes checks that all functions that take a fleet return an error and zero values.
func wantOutcomes(t *testing.T, what string, a arguments, wanted api.Errno) {
	t.Helper()
	for _, x := range outcomes(a) {
		if x.result.e != wanted || !x.isZero() {
			t.Errorf("%s of %s: %v, want the error %d and zero values", x.name, what, x, wanted)
		}
	}
}

// The arguments of which the following tests change one are good.
func TestGoodArguments(t *testing.T) {
	for _, x := range outcomes(arguments{c: crowdConfig(), f: busyFleet(), t: 1, n: 4}) {
		if wanted := map[string]api.Errno{"Stall": api.ErrArg}[x.name]; x.result.e != wanted {
			t.Errorf("%s: error %d, want %d", x.name, x.result.e, wanted)
		}
	}
}

// P9.3 to P9.5, R1, R2: Check's error comes first: config.Check's, and then ErrBad, whatever the other arguments are.
func TestCheckComesFirst(t *testing.T) {
	for _, a := range []arguments{{}, {t: 1, n: 4}, {t: -1, pick: -1, drop: 9, n: 7}, {t: 9}} {
		for _, bad := range badConfigs() {
			a.c, a.f = bad.c, idleFleet(exampleConfig())
			wantOutcomes(t, bad.what, a, bad.e)
			a.f = api.Fleet{Tick: api.MaxTick + 1}
			wantOutcomes(t, bad.what+", and a bad fleet", a, bad.e)
		}
		for _, v := range badVariants() {
			a.c, a.f = v.c, v.f
			wantOutcomes(t, v.what, a, api.ErrBad)
		}
	}
}

// R2: with an error all other results are zero values.
func TestErrorsHaveNoResults(t *testing.T) {
	failed := map[string]int{}
	for i, s := range goodSamples() {
		for _, f := range []api.Fleet{s.f, changed(s.f, func(f *api.Fleet) { f.Tick = api.MaxTick })} {
			for _, x := range outcomes(arguments{s.c, f, i%5 - 1, i % 3, i % 4, i%7 - 1}) {
				if x.result.e == api.OK {
					continue
				}
				failed[x.name]++
				if !x.isZero() {
					t.Errorf("%s: %v", x.name, x)
				}
			}
		}
	}
	for _, name := range []string{"Submit", "Cancel", "Stall", "Step", "Plan"} {
		if failed[name] < 20 {
			t.Errorf("%s failed %d times", name, failed[name])
		}
	}
}

// roomy returns a list with the same elements, and the longer array behind it.
func roomy[T any](l []T, more ...T) (part, behind []T) {
	behind = append(slices.Clone(l), more...)
	return behind[:len(l)], behind
}

// roomyFleet returns a fleet whose slices all have more capacity than length, and a fleet whose slices are what is behind them.
func roomyFleet(f api.Fleet) (part, behind api.Fleet) {
	behind.Tick = f.Tick
	f.Claims, behind.Claims = roomy(f.Claims, api.Claim{Place: -1}, api.Claim{Tick: 1})
	var crews []api.Crew
	for _, w := range f.Crews {
		b := api.Crew{Mover: w.Mover}
		w.Robots, b.Robots = roomy(w.Robots, api.Robot{Place: -1}, api.Robot{State: 77})
		w.Book.Orders, b.Book.Orders = roomy(w.Book.Orders, api.Order{Id: -2}, api.Order{State: 88})
		w.Book.Queue, b.Book.Queue = roomy(w.Book.Queue, -3, -4)
		crews, behind.Crews = append(crews, w), append(behind.Crews, b)
	}
	f.Crews, _ = roomy(crews, api.Crew{Mover: 77})
	return f, behind
}

// spoil changes all that an outcome has, also behind its length.
func spoil(x outcome) {
	fill(x.result.done, api.Finish{Order: -9})
	fill(x.numbers, -9)
	fill(x.robots, api.Position{Place: -9})
	spoilFleet(x.result.f)
}

// spoilFleet changes all that a fleet has, also behind its length.
func spoilFleet(f api.Fleet) {
	for _, w := range f.Crews {
		fill(w.Robots, api.Robot{Place: -9})
		fill(w.Book.Orders, api.Order{Id: -9})
		fill(w.Book.Queue, -9)
	}
	fill(f.Claims, api.Claim{Place: -9})
	fill(f.Crews, api.Crew{Mover: -9})
}

// fill sets all elements of a list, also behind its length.
func fill[T any](l []T, value T) {
	l = l[:cap(l)]
	for i := range l {
		l[i] = value
	}
}

// P1 (R3): arguments are only read, also behind their length, and what is there does not matter; results share no memory with them, nor with one another, and nothing is kept from call to call.
func TestMemoryIsNotShared(t *testing.T) {
	for i, s := range goodSamples() {
		a := arguments{c: s.c, f: s.f, t: i % len(s.f.Crews), n: i % 4}
		before := outcomes(a)
		var behind api.Fleet
		a.f, behind = roomyFleet(s.f)
		all := copied(behind)
		first, second := outcomes(a), outcomes(a)
		if !sameOutcomes(first, before) {
			t.Errorf("a call depends on a capacity: %v", s)
		}
		if !equalFleets(behind, all) || a.f.Crews[:len(a.f.Crews)+1][len(a.f.Crews)].Mover != 77 {
			t.Errorf("a call changed its arguments: %v", s)
		}
		for _, x := range first {
			spoil(x)
		}
		if !equalFleets(behind, all) || !equalFleets(a.f, s.f) {
			t.Errorf("a result shares memory with an argument: %v", s)
		}
		if !sameOutcomes(second, before) || !sameOutcomes(outcomes(a), before) {
			t.Errorf("results share memory, or are kept: %v", s)
		}
	}
}

// P1 (R3): the lists of a result share no memory with one another.
func TestListsOfAResultAreApart(t *testing.T) {
	for _, s := range goodSamples() {
		r := action{kind: step}.run(s.c, s.f)
		for i := range r.f.Crews {
			wanted := copied(r.f)
			w := r.f.Crews[i]
			fill(w.Robots, api.Robot{Place: -9})
			fill(w.Book.Orders, api.Order{Id: -9})
			fill(w.Book.Queue, -9)
			for j, other := range r.f.Crews {
				if j != i && !equalCrews(other, wanted.Crews[j]) {
					t.Fatalf("the crews %d and %d share memory", i, j)
				}
			}
			r.f = wanted
		}
	}
}

// P1 (R3): new fleets share no memory with their config, nor with one another.
func TestNewFleetsAreApart(t *testing.T) {
	c := crowdConfig()
	first, second := newFleet(t, c), newFleet(t, c)
	spoilFleet(first)
	if !equalFleets(second, idleFleet(crowdConfig())) || !equalFleets(newFleet(t, c), second) {
		t.Errorf("%v, and a fleet that was spoilt", second)
	}
}

// P1 (R3): the functions that take a table only read it, also behind its length, and return other memory.
func TestTablesAreApart(t *testing.T) {
	for seed := range 200 {
		l, behind := roomy(drawnTable(seed), api.Claim{Place: -1}, api.Claim{Tick: 3})
		all := slices.Clone(behind)
		for _, x := range []api.Claim{drawnClaim(drawer(seed)), {Tick: 90}, {Tick: api.MaxLook, Place: 63}} {
			more, _ := traffic.Reserve(l, x)
			released, _ := traffic.Release(l, x.Tenant, x.Robot)
			same, _ := traffic.Release(l, 9, 9)
			pruned, _ := traffic.Prune(l, 2)
			whole, _ := traffic.Prune(l, 0)
			for _, other := range [][]api.Claim{more, released, same, pruned, whole} {
				fill(other, api.Claim{Place: -9})
			}
			if !slices.Equal(behind, all) {
				t.Fatalf("a function changed a table, or returned it: %v, want %v", behind, all)
			}
			wantList(t, "CheckTable", l, traffic.CheckTable(l), all[:len(l)], api.OK)
		}
	}
}

// P1 (R3): Judge only reads its lists, and returns other memory each time.
func TestJudgeIsApart(t *testing.T) {
	c := crowdConfig()
	before, allBefore := roomy(at(robots, 0, 24, 24), api.Position{Place: -1})
	after, allAfter := roomy(at(robots, 9, 24, 24), api.Position{Place: -2})
	wantedBefore, wantedAfter := slices.Clone(allBefore), slices.Clone(allAfter)
	first, _ := traffic.Judge(c, before, after, 7)
	second, _ := traffic.Judge(c, before, after, 7)
	fill(first, api.Breach{Kind: 99})
	wanted, e := specJudge(c, before, after, 7)
	wantList(t, "Judge", second, e, wanted, api.OK)
	wantList(t, "before", allBefore, e, wantedBefore, api.OK)
	wantList(t, "after", allAfter, e, wantedAfter, api.OK)
}

// P1 (R3): the fleets of a history stay as they are.
func TestEarlierFleetsStay(t *testing.T) {
	var fleets, copies []api.Fleet
	for i, c := range soundConfigs() {
		history(c, newFleet(t, c), i, 60, func(m moment) {
			fleets, copies = append(fleets, m.after.f), append(copies, copied(m.after.f))
		})
	}
	for i := range fleets {
		if !equalFleets(fleets[i], copies[i]) {
			t.Fatalf("an earlier fleet: %v, want %v", fleets[i], copies[i])
		}
	}
	c := crowdConfig()
	first := after(t, c, busyFleet(), action{kind: submit, t: 1, pick: 0})
	second := after(t, c, busyFleet(), action{kind: submit, t: 1, pick: 1})
	if first.Crews[1].Book.Orders[4].Pick != 0 || second.Crews[1].Book.Orders[4].Pick != 1 {
		t.Errorf("%v and %v", first, second)
	}
}

// P1 (R2): a call that returns an error has no effect on later ones.
func TestErrorsLeaveNoTrace(t *testing.T) {
	a := arguments{c: crowdConfig(), f: busyFleet(), t: 1, n: 2}
	before := outcomes(a)
	for _, v := range badVariants() {
		outcomes(arguments{c: v.c, f: v.f, t: 1, n: 2})
		if !sameOutcomes(outcomes(a), before) {
			t.Errorf("after %s all is different", v.what)
		}
	}
}

// P1 (R4): nil and empty lists are the same.
func TestNilAndEmpty(t *testing.T) {
	none := arguments{c: gapConfig(), f: gapFleet(), t: 2}
	empty := arguments{c: gapConfig(), f: gapFleet(), t: 2}
	empty.c.Teams[1] = api.Team{Homes: []int{}, Picks: []int{}, Drops: []int{}}
	empty.f.Claims, empty.f.Crews[1].Robots = []api.Claim{}, []api.Robot{}
	for i := range empty.f.Crews {
		empty.f.Crews[i].Book = api.Book{Orders: []api.Order{}, Queue: []int{}}
	}
	if !sameOutcomes(outcomes(none), outcomes(empty)) {
		t.Error("a call depends on whether a list is nil")
	}
	for _, l := range [][]api.Claim{nil, {}} {
		wantErrno(t, "CheckTable of an empty table", traffic.CheckTable(l), api.OK)
	}
	for _, crews := range [][]api.Crew{nil, {}} {
		wantOutcomes(t, "a fleet without crews", arguments{c: gapConfig(), f: api.Fleet{Crews: crews}}, api.ErrBad)
	}
}

// P1 (R5, R7): no call panics or goes on for ever, whatever the arguments are.
func TestAnyArguments(t *testing.T) {
	numbers := append([]int{-1, 0, 1, 2, 3, 5, 8, 24, 33, 64}, hugeNumbers...)
	ticks := append([]uint64{0, 1, busyTick, 16, api.MaxTick - 1, api.MaxTick, api.MaxTick + 1}, lateTicks...)
	draw := drawer(1)
	pick := func() int { return numbers[draw(len(numbers))] }
	late := func() uint64 { return ticks[draw(len(ticks))] }
	for range 3000 {
		a := arguments{crowdConfig(), busyFleet(), pick(), pick(), pick(), pick()}
		for range draw(3) {
			a.f.Claims[draw(len(a.f.Claims))] = api.Claim{Tick: late(), Place: pick(), Tenant: pick(), Robot: pick()}
		}
		switch w := &a.f.Crews[draw(3)]; draw(7) {
		case 0:
			w.Mover = pick()
		case 1:
			w.Robots[0] = api.Robot{Place: pick(), State: uint8(pick()), Order: pick(), Left: pick(), Stall: pick(), Due: draw(2) == 0}
		case 2:
			w.Book.Orders[0] = api.Order{Id: pick(), Pick: pick(), Drop: pick(), State: uint8(pick())}
		case 3:
			a.c.Floor.W, a.c.Teams[1].Homes[0], a.c.Teams[2].Load = pick(), pick(), pick()
		case 4:
			a.f.Tick = late()
		case 5:
			a.f.Crews = a.f.Crews[:draw(3)]
		}
		for _, x := range outcomes(a) {
			if x.result.e != api.OK && !x.isZero() {
				t.Errorf("%s of %v: a result with the error %d", x.name, a, x.result.e)
			}
		}
		traffic.Same(a.f, busyFleet())
		tables := [][]api.Claim{a.f.Claims, someTable()}
		for _, l := range tables {
			traffic.Reserve(l, api.Claim{Tick: late(), Place: pick(), Tenant: pick(), Robot: pick()})
			wantFindAny(t, l, pick(), pick(), late())
		}
		x := []api.Position{{Tenant: pick(), Robot: pick(), Place: pick()}}
		if breaches, e := traffic.Judge(a.c, x, x, late()); e != api.OK && len(breaches) > 0 {
			t.Errorf("Judge: breaches with the error %d", e)
		}
	}
	many := arguments{c: crowdConfig(), f: api.Fleet{Crews: make([]api.Crew, 1<<16)}}
	wantOutcomes(t, "very many crews", many, api.ErrBad)
	many.f = busyFleet()
	many.f.Claims = make([]api.Claim, 1<<20)
	wantOutcomes(t, "very many claims", many, api.ErrBad)
}

// wantFindAny checks that questions of any list, table or not, have a value only without an error.
func wantFindAny(t *testing.T, l []api.Claim, tenant, robot int, tick uint64) {
	t.Helper()
	place, is, e := traffic.Find(l, tenant, robot, tick)
	if (place != 0 || is) && e != api.OK {
		t.Errorf("Find: %d, %t, %d", place, is, e)
	}
	x, is, e := traffic.At(l, tick, place)
	if (x != (api.Claim{}) || is) && e != api.OK {
		t.Errorf("At: %v, %t, %d", x, is, e)
	}
}

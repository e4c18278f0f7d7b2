package traffic_test

import (
	"slices"
	"testing"

	"dunnage/api"
	"dunnage/traffic"
)

// someTable returns a table of a few claims.
func someTable() []api.Claim {
	return []api.Claim{
		{Tick: 4, Place: 9, Tenant: 0, Robot: 1},
		{Tick: 5, Place: 0, Tenant: 2, Robot: 2},
		{Tick: 5, Place: 8, Tenant: 0, Robot: 1},
		{Tick: 5, Place: 63, Tenant: 0, Robot: 0},
		{Tick: 7, Place: 9, Tenant: 1, Robot: 1},
		{Tick: api.MaxLook, Place: 9, Tenant: 1, Robot: 1},
	}
}

// tableWith returns a table with so many claims: nine at each tick, of all robots.
func tableWith(many int) []api.Claim {
	l := make([]api.Claim, many)
	for i := range l {
		l[i] = api.Claim{Tick: uint64(i / 9), Place: i % 9 * 7, Tenant: i % 3, Robot: i / 3 % 3}
	}
	return l
}

// drawnClaim returns a claim that is likely to meet others.
func drawnClaim(draw func(limit int) int) api.Claim {
	return api.Claim{Tick: uint64(draw(6)), Place: draw(12) * 5, Tenant: draw(3), Robot: draw(3)}
}

// drawnTable returns a table; another seed leads to another one.
func drawnTable(seed int) []api.Claim {
	draw := drawer(seed)
	var l []api.Claim
	for range draw(30) {
		if more, e := specReserve(l, drawnClaim(draw)); e == api.OK {
			l = more
		}
	}
	return l
}

// badTable is a list that is no table, for one reason.
type badTable struct {
	what string
	l    []api.Claim
	e    api.Errno
}

// badTables returns lists that are no tables.
func badTables() []badTable {
	var all []badTable
	add := func(what string, change func(l []api.Claim) []api.Claim) {
		all = append(all, badTable{what, change(someTable()), api.ErrBad})
	}
	swap := func(what string, i, j int) {
		add(what, func(l []api.Claim) []api.Claim {
			l[i], l[j] = l[j], l[i]
			return l
		})
	}
	claim := func(what string, i int, x api.Claim) {
		add(what, func(l []api.Claim) []api.Claim {
			l[i] = x
			return l
		})
	}
	swap("ticks in another order", 0, 4)
	swap("the last tick first", 0, 5)
	swap("places in another order", 1, 2)
	swap("the places of a tick in another order", 2, 3)
	add("a claim twice", func(l []api.Claim) []api.Claim { return slices.Insert(l, 1, l[1]) })
	claim("two claims with a tick and a place", 1, api.Claim{Tick: 5, Place: 8, Tenant: 2, Robot: 2})
	claim("two neighbours of one robot", 2, api.Claim{Tick: 5, Place: 8, Tenant: 2, Robot: 2})
	claim("two claims of one robot, and one between them", 3, api.Claim{Tick: 5, Place: 63, Tenant: 2, Robot: 2})
	for i := range someTable() {
		for _, n := range append([]int{-1, 64, 65}, hugeNumbers...) {
			add("a place out of range", func(l []api.Claim) []api.Claim { l[i].Place = n; return l })
		}
		for _, n := range append([]int{-1, 3, 4}, hugeNumbers...) {
			add("a tenant out of range", func(l []api.Claim) []api.Claim { l[i].Tenant = n; return l })
			add("a robot out of range", func(l []api.Claim) []api.Claim { l[i].Robot = n; return l })
		}
	}
	for _, tick := range lateTicks {
		add("a tick out of range", func(l []api.Claim) []api.Claim { l[5].Tick = tick; return l })
		all = append(all, badTable{"one claim that is too late", []api.Claim{{Tick: tick}}, api.ErrBad})
	}
	for _, many := range []int{4097, 4098, 1 << 16} {
		all = append(all, badTable{"a list that is too long", tableWith(many), api.ErrMany})
		all = append(all, badTable{"a list that is too long, and no table", make([]api.Claim, many), api.ErrMany})
	}
	all = append(all, badTable{"a long list that is no table", make([]api.Claim, 4096), api.ErrBad})
	return all
}

// P9.1: CheckTable, of tables and of lists that are none for one reason each.
func TestCheckTable(t *testing.T) {
	for _, l := range [][]api.Claim{nil, {}, someTable(), {{}}, {{Tick: api.MaxLook, Place: 63, Tenant: 2, Robot: 2}}, tableWith(4095), tableWith(4096)} {
		wantErrno(t, "CheckTable of a table", traffic.CheckTable(l), api.OK)
	}
	// One place at two ticks, one robot at two ticks, one robot's number of two tenants: all this may be.
	many := []api.Claim{{Tick: 1, Place: 1}, {Tick: 1, Place: 2, Tenant: 1}, {Tick: 1, Place: 3, Robot: 1}, {Tick: 2, Place: 1}}
	wantErrno(t, "CheckTable of a table", traffic.CheckTable(many), api.OK)
	for _, bad := range badTables() {
		wantErrno(t, "CheckTable of "+bad.what, traffic.CheckTable(bad.l), bad.e)
	}
	for seed := range 3000 {
		draw := drawer(seed)
		var l []api.Claim
		for range draw(5) {
			l = append(l, api.Claim{Tick: uint64(draw(3)), Place: draw(4), Tenant: draw(2), Robot: draw(2)})
		}
		if draw(3) > 0 {
			l = specSorted(l)
		}
		if e, wanted := traffic.CheckTable(l), specCheckTable(l); e != wanted {
			t.Errorf("CheckTable of %v: error %d, want %d", l, e, wanted)
		}
	}
}

// P9.1: Reserve, of claims that are free, and of those that are not.
func TestReserve(t *testing.T) {
	l := someTable()
	for i, free := range []struct {
		x api.Claim
		i int
	}{
		{api.Claim{Tick: 0, Place: 9, Tenant: 0, Robot: 1}, 0},
		{api.Claim{Tick: 4, Place: 8, Tenant: 1, Robot: 1}, 0},
		{api.Claim{Tick: 4, Place: 10, Tenant: 0, Robot: 0}, 1},
		{api.Claim{Tick: 5, Place: 7, Tenant: 2, Robot: 1}, 2},
		{api.Claim{Tick: 5, Place: 9, Tenant: 1, Robot: 1}, 3},
		{api.Claim{Tick: 6, Place: 9, Tenant: 1, Robot: 1}, 4},
		{api.Claim{Tick: api.MaxLook, Place: 8, Tenant: 0, Robot: 1}, 5},
		{api.Claim{Tick: api.MaxLook, Place: 63, Tenant: 2, Robot: 2}, 6},
	} {
		more, e := traffic.Reserve(l, free.x)
		wantList(t, "Reserve", more, e, slices.Insert(someTable(), free.i, free.x), api.OK)
		more, e = traffic.Reserve(nil, free.x)
		wantList(t, "Reserve in an empty table", more, e, []api.Claim{free.x}, api.OK)
		if !slices.Equal(l, someTable()) {
			t.Fatalf("Reserve %d changes the table: %v", i, l)
		}
	}
	for _, x := range []api.Claim{
		{Tick: 5, Place: 8, Tenant: 1, Robot: 0},
		{Tick: 5, Place: 8, Tenant: 0, Robot: 1},
		{Tick: 5, Place: 1, Tenant: 0, Robot: 1},
		{Tick: 5, Place: 62, Tenant: 2, Robot: 2},
		{Tick: api.MaxLook, Place: 9, Tenant: 0, Robot: 0},
	} {
		more, e := traffic.Reserve(l, x)
		wantList(t, "Reserve of what is taken", more, e, nil, api.ErrTaken)
	}
}

// P9.1: Reserve's errors, and their order: CheckTable's, ErrArg, ErrTaken, ErrFull.
func TestReserveErrors(t *testing.T) {
	var wrong []api.Claim
	for _, n := range append([]int{-1, 3, 4}, hugeNumbers...) {
		wrong = append(wrong, api.Claim{Tick: 5, Place: 8, Tenant: n}, api.Claim{Tick: 5, Place: 8, Robot: n}, api.Claim{Tick: 5, Place: n << 5})
	}
	for _, n := range append([]int{-1, 64, 65}, hugeNumbers...) {
		wrong = append(wrong, api.Claim{Tick: 5, Place: n, Robot: 1})
	}
	for _, tick := range lateTicks {
		wrong = append(wrong, api.Claim{Tick: tick, Place: 9, Tenant: 1, Robot: 1})
	}
	full := tableWith(4096)
	for _, x := range wrong {
		if specInRange(x) {
			continue
		}
		more, e := traffic.Reserve(someTable(), x)
		wantList(t, "Reserve of a claim out of range", more, e, nil, api.ErrArg)
		more, e = traffic.Reserve(full, x)
		wantList(t, "Reserve of a claim out of range in a full table", more, e, nil, api.ErrArg)
	}
	for _, x := range []api.Claim{full[0], full[4095], {Tick: 3, Place: 1, Tenant: 1, Robot: 2}} {
		more, e := traffic.Reserve(full, x)
		wantList(t, "Reserve of what is taken in a full table", more, e, nil, api.ErrTaken)
	}
	for _, x := range []api.Claim{{Tick: api.MaxLook}, {Tick: 455, Place: 60, Robot: 2}} {
		more, e := traffic.Reserve(full, x)
		wantList(t, "Reserve in a full table", more, e, nil, api.ErrFull)
		more, e = traffic.Reserve(full[:4095], x)
		wantList(t, "Reserve of the last claim", more, e, specSorted(append(full[:4095:4095], x)), api.OK)
	}
}

// P9.1, P9.2: the functions that take a table return CheckTable's error first, whatever their other arguments are.
func TestTableErrors(t *testing.T) {
	for _, bad := range badTables() {
		for _, x := range []api.Claim{{Tick: 5, Place: 8, Robot: 1}, {Tick: 99}, {Tick: api.MaxLook + 1, Place: -1, Tenant: 9, Robot: 9}} {
			more, e := traffic.Reserve(bad.l, x)
			wantList(t, "Reserve in "+bad.what, more, e, nil, bad.e)
			found, is, e := traffic.At(bad.l, x.Tick, x.Place)
			if found != (api.Claim{}) || is || e != bad.e {
				t.Errorf("At in %s: %v, %t, %d, want the error %d", bad.what, found, is, e, bad.e)
			}
			place, is, e := traffic.Find(bad.l, x.Tenant, x.Robot, x.Tick)
			if place != 0 || is || e != bad.e {
				t.Errorf("Find in %s: %d, %t, %d, want the error %d", bad.what, place, is, e, bad.e)
			}
			more, e = traffic.Release(bad.l, x.Tenant, x.Robot)
			wantList(t, "Release in "+bad.what, more, e, nil, bad.e)
			more, e = traffic.Prune(bad.l, x.Tick)
			wantList(t, "Prune in "+bad.what, more, e, nil, bad.e)
		}
	}
}

// wantAt checks what At returns.
func wantAt(t *testing.T, l []api.Claim, tick uint64, place int) {
	t.Helper()
	wanted, isWanted := api.Claim{}, false
	for _, x := range l {
		if x.Tick == tick && x.Place == place {
			wanted, isWanted = x, true
		}
	}
	if x, is, e := traffic.At(l, tick, place); x != wanted || is != isWanted || e != api.OK {
		t.Errorf("At %d, %d in %v: %v, %t, %d", tick, place, l, x, is, e)
	}
}

// wantFind checks what Find returns.
func wantFind(t *testing.T, l []api.Claim, tenant, robot int, tick uint64) {
	t.Helper()
	wanted, isWanted := 0, false
	for _, x := range l {
		if x.Tick == tick && x.Tenant == tenant && x.Robot == robot {
			wanted, isWanted = x.Place, true
		}
	}
	if place, is, e := traffic.Find(l, tenant, robot, tick); place != wanted || is != isWanted || e != api.OK {
		t.Errorf("Find %d, %d, %d in %v: %d, %t, %d", tenant, robot, tick, l, place, is, e)
	}
}

// wantRelease checks what Release returns.
func wantRelease(t *testing.T, l []api.Claim, tenant, robot int) {
	t.Helper()
	less, e := traffic.Release(l, tenant, robot)
	wantList(t, "Release", less, e, specWithout(l, func(x api.Claim) bool { return x.Tenant == tenant && x.Robot == robot }), api.OK)
}

// wantPrune checks what Prune returns.
func wantPrune(t *testing.T, l []api.Claim, tick uint64) {
	t.Helper()
	less, e := traffic.Prune(l, tick)
	wantList(t, "Prune", less, e, specWithout(l, func(x api.Claim) bool { return x.Tick < tick }), api.OK)
}

// P9.1, P9.2: all functions, of drawn tables.
func TestTables(t *testing.T) {
	sizes := 0
	for seed := range 400 {
		l := drawnTable(seed)
		wantErrno(t, "CheckTable", traffic.CheckTable(l), api.OK)
		sizes += len(l)
		draw := drawer(seed + 1000)
		for range 20 {
			x := drawnClaim(draw)
			more, e := traffic.Reserve(l, x)
			wanted, wantE := specReserve(l, x)
			wantList(t, "Reserve", more, e, wanted, wantE)
			wantAt(t, l, x.Tick, x.Place)
			wantFind(t, l, x.Tenant, x.Robot, x.Tick)
			wantRelease(t, l, x.Tenant, x.Robot)
			wantPrune(t, l, x.Tick)
		}
	}
	if sizes < 3000 {
		t.Errorf("the tables have %d claims", sizes)
	}
}

// P9.2: what is found in a table, and what is left of it.
func TestQuestionsOfTables(t *testing.T) {
	for _, l := range [][]api.Claim{nil, someTable(), tableWith(4096)} {
		for _, x := range append(someTable(), api.Claim{}, api.Claim{Tick: 6}, api.Claim{Tick: 455, Place: 49, Tenant: 1}) {
			wantAt(t, l, x.Tick, x.Place)
			wantFind(t, l, x.Tenant, x.Robot, x.Tick)
			wantRelease(t, l, x.Tenant, x.Robot)
		}
		for _, tick := range []uint64{0, 4, 5, 6, 7, 8, 455, 456, api.MaxTick, api.MaxLook} {
			wantPrune(t, l, tick)
		}
	}
}

// P9.2: no argument is out of range: there is just no such claim.
func TestArgumentsOutOfRange(t *testing.T) {
	l := someTable()
	for _, n := range append([]int{-1, 3, 64, 65}, hugeNumbers...) {
		wantAt(t, l, 5, n)
		wantFind(t, l, n, 1, 5)
		wantFind(t, l, 0, n, 5)
		wantRelease(t, l, n, 1)
		wantRelease(t, l, 0, n)
	}
	for _, tick := range lateTicks {
		wantAt(t, l, tick, 9)
		wantFind(t, l, 1, 1, tick)
		wantPrune(t, l, tick)
	}
}

// P9.7: a claim that was reserved is found, and the other ones stay; a robot's claims that are released and reserved again are the same table.
func TestReservedClaims(t *testing.T) {
	reserved := 0
	for seed := range 300 {
		l := drawnTable(seed)
		x := drawnClaim(drawer(seed + 5000))
		if more, e := traffic.Reserve(l, x); e == api.OK {
			reserved++
			found, is, e := traffic.At(more, x.Tick, x.Place)
			if found != x || !is || e != api.OK {
				t.Errorf("At of what was reserved: %v, %t, %d, want %v", found, is, e, x)
			}
			place, is, e := traffic.Find(more, x.Tenant, x.Robot, x.Tick)
			if place != x.Place || !is || e != api.OK {
				t.Errorf("Find of what was reserved: %d, %t, %d, want %v", place, is, e, x)
			}
			if others := specWithout(more, func(y api.Claim) bool { return y == x }); !slices.Equal(others, l) {
				t.Errorf("the others are %v, want %v", others, l)
			}
		}
		again, e := traffic.Release(l, x.Tenant, x.Robot)
		for _, y := range slices.Backward(l) {
			if y.Tenant == x.Tenant && y.Robot == x.Robot && e == api.OK {
				again, e = traffic.Reserve(again, y)
			}
		}
		wantList(t, "released and reserved again", again, e, l, api.OK)
	}
	if reserved < 50 {
		t.Errorf("%d claims were reserved", reserved)
	}
}

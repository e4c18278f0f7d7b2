package traffic

import (
	"cmp"
	"maps"
	"slices"

	"dunnage/api"
)

// CheckTable returns an error unless a list is a table.
func CheckTable(l []api.Claim) api.Errno {
	_, e := tableOf(l)
	return e
}

// Reserve returns a table with one claim more.
func Reserve(l []api.Claim, x api.Claim) ([]api.Claim, api.Errno) {
	a, e := tableOf(l)
	if e != api.OK {
		return nil, e
	}
	if e := a.reserve(x); e != api.OK {
		return nil, e
	}
	return a.list(), api.OK
}

// At returns the claim with a tick and a place.
func At(l []api.Claim, tick uint64, place int) (api.Claim, bool, api.Errno) {
	a, e := tableOf(l)
	if e != api.OK {
		return api.Claim{}, false, e
	}
	x, is := a.claims[stop{tick, place}]
	return x, is, api.OK
}

// Find returns the place that a robot has claimed for a tick.
func Find(l []api.Claim, tenant, robot int, tick uint64) (int, bool, api.Errno) {
	a, e := tableOf(l)
	if e != api.OK {
		return 0, false, e
	}
	place, is := a.places[turn{tick, tenant, robot}]
	return place, is, api.OK
}

// Release returns a table without the claims of a robot.
func Release(l []api.Claim, tenant, robot int) ([]api.Claim, api.Errno) {
	return without(l, isOf(tenant, robot))
}

// Prune returns a table without the claims at ticks less than the given one.
func Prune(l []api.Claim, tick uint64) ([]api.Claim, api.Errno) {
	return without(l, func(x api.Claim) bool { return x.Tick < tick })
}

// stop is a place at a tick: a table has one claim of it at most.
type stop struct {
	tick  uint64
	place int
}

// turn is a robot at a tick: a table has one claim of it at most.
type turn struct {
	tick          uint64
	tenant, robot int
}

// table is the working form of a table: the claim of each stop, and the place of each turn.
type table struct {
	claims map[stop]api.Claim
	places map[turn]int
}

// emptyTable returns a table without claims.
func emptyTable() table { return table{map[stop]api.Claim{}, map[turn]int{}} }

// tableOf returns the working form of a list: ErrMany if it is too long, and ErrBad unless it is a table.
func tableOf(l []api.Claim) (table, api.Errno) {
	if len(l) > api.MaxClaims {
		return table{}, api.ErrMany
	}
	a := emptyTable()
	for i, x := range l {
		isInOrder := i == 0 || compareStops(l[i-1], x) < 0
		if !isInOrder || a.reserve(x) != api.OK {
			return table{}, api.ErrBad
		}
	}
	return a, api.OK
}

// without returns a table without the claims for which a condition holds: CheckTable's error.
func without(l []api.Claim, holds func(x api.Claim) bool) ([]api.Claim, api.Errno) {
	a, e := tableOf(l)
	if e != api.OK {
		return nil, e
	}
	a.remove(holds)
	return a.list(), api.OK
}

// reserve adds a claim: ErrArg unless it is in range, ErrTaken if its stop or its turn has a claim, and ErrFull if there is no room for it.
func (a table) reserve(x api.Claim) api.Errno {
	if !isInRange(x) {
		return api.ErrArg
	}
	_, isStopTaken := a.claims[stopOf(x)]
	_, isTurnTaken := a.places[turnOf(x)]
	if isStopTaken || isTurnTaken {
		return api.ErrTaken
	}
	if len(a.claims) == api.MaxClaims {
		return api.ErrFull
	}
	a.claims[stopOf(x)] = x
	a.places[turnOf(x)] = x.Place
	return api.OK
}

// remove deletes the claims for which a condition holds.
func (a table) remove(holds func(x api.Claim) bool) {
	for s, x := range a.claims {
		if holds(x) {
			delete(a.claims, s)
			delete(a.places, turnOf(x))
		}
	}
}

// has reports whether a condition holds for one of the claims.
func (a table) has(holds func(x api.Claim) bool) bool {
	for _, x := range a.claims {
		if holds(x) {
			return true
		}
	}
	return false
}

// list returns the claims in their order.
func (a table) list() []api.Claim { return slices.SortedFunc(maps.Values(a.claims), compareStops) }

// stopOf returns the stop of a claim.
func stopOf(x api.Claim) stop { return stop{x.Tick, x.Place} }

// turnOf returns the turn of a claim.
func turnOf(x api.Claim) turn { return turn{x.Tick, x.Tenant, x.Robot} }

// compareStops compares two claims by their ticks, and those of one tick by their places.
func compareStops(x, y api.Claim) int {
	return cmp.Or(cmp.Compare(x.Tick, y.Tick), cmp.Compare(x.Place, y.Place))
}

// isOf returns the condition that a claim is one of a robot of a tenant.
func isOf(tenant, robot int) func(x api.Claim) bool {
	return func(x api.Claim) bool { return x.Tenant == tenant && x.Robot == robot }
}

// isInRange reports whether the numbers of a claim are such as a table may have.
func isInRange(x api.Claim) bool {
	return x.Tick <= api.MaxLook && isIndex(x.Place, api.MaxCells) && isIndex(x.Tenant, api.MaxTeams) && isIndex(x.Robot, api.MaxRobots)
}

// isIndex reports whether a number, of any size, is one of so many things that are counted from 0 on.
func isIndex(n, many int) bool { return n >= 0 && n < many }

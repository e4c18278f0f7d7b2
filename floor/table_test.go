package floor_test

import (
	"math"
	"slices"
	"testing"

	"dunnage/api"
	"dunnage/floor"
)

// exampleTable returns the slice table of the document's examples.
func exampleTable() []uint8 { return []uint8{1, 1, 0, 2} }

// P2.5: CheckSlices.
func TestCheckSlices(t *testing.T) {
	for n := range 40 {
		want := api.ErrSlices
		if n >= 1 && n <= 16 {
			want = api.OK
		}
		wantErrno(t, "CheckSlices", floor.CheckSlices(make([]uint8, n)), want)
		wantErrno(t, "CheckSlices", floor.CheckSlices(slices.Repeat([]uint8{3}, n)), want)
	}
	for value := range 256 {
		want := api.ErrSlices
		if value <= 3 {
			want = api.OK
		}
		for i := range 4 {
			l := exampleTable()
			l[i] = uint8(value)
			wantErrno(t, "CheckSlices with one other entry", floor.CheckSlices(l), want)
		}
	}
	for _, l := range badTables() {
		wantErrno(t, "CheckSlices of a bad table", floor.CheckSlices(l), api.ErrSlices)
	}
}

// P2.5: SliceOwner.
func TestSliceOwner(t *testing.T) {
	for tick, want := range []int{0, 0, -1, 1, 0, 0, -1, 1, 0} {
		owner, e := floor.SliceOwner(exampleTable(), uint64(tick))
		wantInt(t, "SliceOwner", owner, e, want, api.OK)
	}
	for _, l := range badTables() {
		owner, e := floor.SliceOwner(l, 0)
		wantInt(t, "SliceOwner of a bad table", owner, e, 0, api.ErrSlices)
	}
}

// P2.6: SliceLeft.
func TestSliceLeft(t *testing.T) {
	for _, x := range []struct {
		l            []uint8
		tick         uint64
		tenant, want int
	}{
		{exampleTable(), 4, 0, 2},
		{exampleTable(), 5, 0, 1},
		{exampleTable(), 6, 0, 0},
		{exampleTable(), 7, 1, 1},
		{exampleTable(), 7, 0, 0},
		{exampleTable(), 6, 2, 0},
		{[]uint8{1, 2, 1, 1}, 2, 0, 3},
		{[]uint8{2}, math.MaxUint64, 1, 1},
		{[]uint8{2}, math.MaxUint64, 0, 0},
		{[]uint8{3, 3}, 1, 2, 2},
		{slices.Repeat([]uint8{1}, 16), 5, 0, 16},
	} {
		n, e := floor.SliceLeft(x.l, x.tick, x.tenant)
		if n != x.want || e != api.OK {
			t.Errorf("SliceLeft(%v, %d, %d): %d, %d, want %d", x.l, x.tick, x.tenant, n, e, x.want)
		}
	}
}

// P2.6: SliceWait.
func TestSliceWait(t *testing.T) {
	for _, x := range []struct {
		l            []uint8
		tick         uint64
		tenant, want int
		e            api.Errno
	}{
		{exampleTable(), 4, 1, 3, api.OK},
		{exampleTable(), 2, 0, 2, api.OK},
		{exampleTable(), 0, 2, 0, api.ErrNone},
		{exampleTable(), 0, 0, 0, api.OK},
		{exampleTable(), 3, 1, 0, api.OK},
		{[]uint8{2}, math.MaxUint64, 1, 0, api.OK},
		{[]uint8{2}, math.MaxUint64, 0, 0, api.ErrNone},
		{[]uint8{0}, 0, 0, 0, api.ErrNone},
		{append(make([]uint8, 15), 3), 0, 2, 15, api.OK},
		{append(make([]uint8, 15), 3), 16, 2, 15, api.OK},
		{append(make([]uint8, 15), 3), 15, 2, 0, api.OK},
		{append([]uint8{3}, make([]uint8, 15)...), 1, 2, 15, api.OK},
	} {
		n, e := floor.SliceWait(x.l, x.tick, x.tenant)
		if n != x.want || e != x.e {
			t.Errorf("SliceWait(%v, %d, %d): %d, %d, want %d, %d", x.l, x.tick, x.tenant, n, e, x.want, x.e)
		}
	}
}

// P2.6: the errors of SliceLeft and SliceWait, and which is first.
func TestSliceErrors(t *testing.T) {
	want := func(l []uint8, tick uint64, tenant int, wantE api.Errno) {
		t.Helper()
		n, e := floor.SliceLeft(l, tick, tenant)
		wantInt(t, "SliceLeft", n, e, 0, wantE)
		n, e = floor.SliceWait(l, tick, tenant)
		wantInt(t, "SliceWait", n, e, 0, wantE)
	}
	for _, tenant := range append([]int{-2, -1, 3, 4, 256}, hugeNumbers...) {
		want(exampleTable(), 0, tenant, api.ErrArg)
		want(exampleTable(), math.MaxUint64, tenant, api.ErrArg)
		want([]uint8{0}, 0, tenant, api.ErrArg)
		want(nil, 0, tenant, api.ErrSlices)
	}
	for _, l := range badTables() {
		want(l, 0, 0, api.ErrSlices)
		want(l, math.MaxUint64, -1, api.ErrSlices)
	}
}

// turned returns the entries of a table from an index on.
func turned(l []uint8, first int) []uint8 { return slices.Concat(l[first:], l[:first]) }

// wantSlices checks all that the functions say of a table at a tick whose entry has an index.
func wantSlices(t *testing.T, l []uint8, tick uint64, first int) {
	t.Helper()
	entries := turned(l, first)
	owner, e := floor.SliceOwner(l, tick)
	wantInt(t, "SliceOwner", owner, e, int(entries[0])-1, api.OK)
	for tenant := range api.MaxTeams {
		left := slices.IndexFunc(entries, func(x uint8) bool { return int(x) != tenant+1 })
		if left < 0 {
			left = len(l)
		}
		n, e := floor.SliceLeft(l, tick, tenant)
		wantInt(t, "SliceLeft", n, e, left, api.OK)
		wait, wantE := slices.Index(entries, uint8(tenant+1)), api.OK
		if wait < 0 {
			wait, wantE = 0, api.ErrNone
		}
		n, e = floor.SliceWait(l, tick, tenant)
		wantInt(t, "SliceWait", n, e, wait, wantE)
	}
}

// P2.5, P2.6 and P2.9: the entries of small ticks, and of ticks that differ from them by multiples of the period.
func TestSlicesRecur(t *testing.T) {
	for _, l := range tables() {
		period := uint64(len(l))
		for first := range l {
			most := (math.MaxUint64 - uint64(first)) / period
			for _, times := range []uint64{0, 1, 2, 3, 1000, 1 << 31, 1 << 58, most - 1, most} {
				wantSlices(t, l, uint64(first)+times*period, first)
			}
		}
	}
}

// P2.6: the table continues with its next entry after the last tick of a uint64, whatever the entry of the tick 0 is.
func TestSlicesAtTheLargestTicks(t *testing.T) {
	for _, l := range tables() {
		for _, tick := range largestTicks {
			wantSlices(t, l, tick, int(tick%uint64(len(l))))
		}
	}
	// 2^64 - 1 is a multiple of 3, so that its entry is the first one, and the tick 0 would have it again.
	l := []uint8{1, 2, 3}
	for tenant, want := range []int{0, 1, 2} {
		n, e := floor.SliceWait(l, math.MaxUint64, tenant)
		wantInt(t, "SliceWait", n, e, want, api.OK)
	}
	n, e := floor.SliceLeft([]uint8{1, 2, 1}, math.MaxUint64, 0)
	wantInt(t, "SliceLeft", n, e, 1, api.OK)
}

// P2.9: at each tick the aisles belong to at most one tenant.
func TestOneTenantATick(t *testing.T) {
	for _, l := range tables() {
		for tick := range uint64(2 * len(l)) {
			owner, e := floor.SliceOwner(l, tick)
			wantErrno(t, "SliceOwner", e, api.OK)
			for tenant := range api.MaxTeams {
				left, _ := floor.SliceLeft(l, tick, tenant)
				wait, e := floor.SliceWait(l, tick, tenant)
				if (left > 0) != (owner == tenant) || (wait == 0 && e == api.OK) != (owner == tenant) {
					t.Errorf("%v at %d belongs to %d; tenant %d has %d left and waits for %d, %d", l, tick, owner, tenant, left, wait, e)
				}
			}
		}
	}
}

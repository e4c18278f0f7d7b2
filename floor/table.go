package floor

import "dunnage/api"

// CheckSlices returns ErrSlices unless a slice table is valid.
func CheckSlices(l []uint8) api.Errno {
	if len(l) < 1 || len(l) > api.MaxPeriod {
		return api.ErrSlices
	}
	for _, entry := range l {
		if entry > api.MaxTeams {
			return api.ErrSlices
		}
	}
	return api.OK
}

// SliceOwner returns the tenant to whom the aisles belong at a tick.
func SliceOwner(l []uint8, tick uint64) (int, api.Errno) {
	if e := CheckSlices(l); e != api.OK {
		return 0, e
	}
	return tenantOf(l[indexOf(l, tick)]), api.OK
}

// SliceLeft returns how many entries in succession belong to a tenant.
func SliceLeft(l []uint8, tick uint64, t int) (int, api.Errno) {
	if e := checkSlicesOf(l, t); e != api.OK {
		return 0, e
	}
	return countUntil(l, tick, func(entry uint8) bool { return tenantOf(entry) != t }), api.OK
}

// SliceWait returns how many entries come before a tenant's next one.
func SliceWait(l []uint8, tick uint64, t int) (int, api.Errno) {
	if e := checkSlicesOf(l, t); e != api.OK {
		return 0, e
	}
	n := countUntil(l, tick, func(entry uint8) bool { return tenantOf(entry) == t })
	if n == len(l) {
		return 0, api.ErrNone
	}
	return n, api.OK
}

// checkSlicesOf returns ErrSlices unless a slice table is valid, and then ErrArg unless a number is one of a tenant.
func checkSlicesOf(l []uint8, t int) api.Errno {
	if e := CheckSlices(l); e != api.OK {
		return e
	}
	if !isTenant(t) {
		return api.ErrArg
	}
	return api.OK
}

// indexOf returns the index of the entry of a tick.
func indexOf(l []uint8, tick uint64) int { return int(tick % uint64(len(l))) }

// tenantOf returns the tenant to whom an entry belongs, or -1.
func tenantOf(entry uint8) int { return int(entry) - 1 }

// countUntil returns how many entries come, from the entry of a tick on, before the first one that ends the count: the period if none does.
func countUntil(l []uint8, tick uint64, ends func(entry uint8) bool) int {
	// Indices are counted, not ticks: the tick after the largest one is 0, whose entry need not come next.
	first := indexOf(l, tick)
	for n := range l {
		if ends(l[(first+n)%len(l)]) {
			return n
		}
	}
	return len(l)
}

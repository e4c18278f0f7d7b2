package auth_test

import (
	"bytes"
	"math"
	"slices"
	"testing"

	"dunnage/api"
	"dunnage/auth"
)

// hugeNumbers are far out of each range, and so chosen that a conversion to fewer bits would bring them back.
var hugeNumbers = []int{math.MinInt, math.MinInt + 1, -1 << 32, -256, -255, 256, 257, 258, 1 << 32, 1<<32 + 1, 1 << 62, math.MaxInt - 1, math.MaxInt}

// someTenants are numbers of tenants, and numbers of none.
var someTenants = append([]int{-2, -1, 0, 1, 2, 3, 4}, hugeNumbers...)

// lateTicks are beyond MaxTick.
var lateTicks = []uint64{api.MaxTick + 1, api.MaxTick + 8, api.MaxLook, 1 << 63, math.MaxUint64 - 1, math.MaxUint64}

// someTicks are ticks, and numbers that are none.
var someTicks = append([]uint64{0, 1, 2, 9, 10, 11, 12, 15, 20, 99, 256, 1 << 32, api.MaxTick - 1, api.MaxTick}, lateTicks...)

// someRoles are roles, and numbers that are none.
var someRoles = []uint8{0, 1, 2, 3, 4, 5, 127, 128, 129, 254, 255}

// someKinds are kinds of requests, kinds of replies only, and numbers that are none.
var someKinds = []uint8{0, 1, 2, 3, 4, 5, 6, 7, 8, 15, 16, 17, 18, 19, 128, 129, 254, 255}

// someSerials are serial numbers, and numbers that are none in a short ring.
var someSerials = []uint32{0, 1, 2, 3, 4, 31, 32, 33, 255, 256, 257, 1 << 16, 1<<16 + 1, 1 << 31, math.MaxUint32}

// requests are the kinds of requests.
var requests = []uint8{api.KindSubmit, api.KindCancel, api.KindQuery, api.KindWatch, api.KindLog, api.KindRevoke}

// aKey is a key.
var aKey = []byte("a key of the gateway")

// goodKeys returns keys.
func goodKeys() [][]byte {
	return [][]byte{{0}, {1}, {255, 0}, aKey, bytes.Repeat([]byte{7}, 63), bytes.Repeat([]byte{9}, 64)}
}

// badKeys returns bytes that are no keys.
func badKeys() [][]byte {
	return [][]byte{nil, {}, make([]byte, 65), make([]byte, 66), make([]byte, 256), make([]byte, 257), make([]byte, 1<<16+1)}
}

// wantErrno checks an error number.
func wantErrno(t *testing.T, what string, got, want api.Errno) {
	t.Helper()
	if got != want {
		t.Errorf("%s: error %d, want %d", what, got, want)
	}
}

// want checks a result and an error number.
func want[T comparable](t *testing.T, what string, got T, e api.Errno, wanted T, wantE api.Errno) {
	t.Helper()
	if got != wanted || e != wantE {
		t.Errorf("%s: %v, %d, want %v, %d", what, got, e, wanted, wantE)
	}
}

// wantList checks a list and an error number; nil and empty lists are the same.
func wantList[T comparable](t *testing.T, what string, got []T, e api.Errno, wanted []T, wantE api.Errno) {
	t.Helper()
	if !slices.Equal(got, wanted) || e != wantE {
		t.Errorf("%s: %v, %d, want %v, %d", what, got, e, wanted, wantE)
	}
}

// aToken returns a token with different bytes everywhere.
func aToken() api.Token {
	t := api.Token{Tenant: 0xa1, Role: 0xb2, Expiry: 0x0102030405060708, Serial: 0x90a0b0c0}
	for i := range t.Tag {
		t.Tag[i] = byte(0x20 + i)
	}
	return t
}

// someTokens returns tokens of all sorts; none is genuine under a key that is known.
func someTokens() []api.Token {
	full := api.Token{Tenant: 255, Role: 255, Expiry: math.MaxUint64, Serial: math.MaxUint32}
	for i := range full.Tag {
		full.Tag[i] = 255
	}
	all := []api.Token{{}, aToken(), full, {Tenant: 1, Role: 2, Expiry: 258, Serial: 3}}
	for _, x := range []api.Token{{Tenant: 1}, {Role: 1}, {Expiry: 1}, {Serial: 1}, {Tag: [32]byte{1}}, {Tag: [32]byte{31: 1}}} {
		all = append(all, x)
	}
	for i := range 64 {
		all = append(all, api.Token{Expiry: 1 << i}, api.Token{Serial: 1 << (i % 32), Tag: aToken().Tag})
	}
	return all
}

// signed returns a token with the tag under a key that is one.
func signed(t *testing.T, key []byte, x api.Token) api.Token {
	t.Helper()
	s, e := auth.Sign(key, x)
	wantErrno(t, "Sign", e, api.OK)
	return s
}

// issued returns what Issue returns without an error.
func issued(t *testing.T, l []api.Minted, key []byte, tenant int, role uint8, life, now uint64) ([]api.Minted, api.Token) {
	t.Helper()
	ring, x, e := auth.Issue(l, key, tenant, role, life, now)
	wantErrno(t, "Issue", e, api.OK)
	return ring, x
}

// revoked returns what Revoke returns without an error.
func revoked(t *testing.T, l []api.Minted, serial uint32) []api.Minted {
	t.Helper()
	ring, e := auth.Revoke(l, serial)
	wantErrno(t, "Revoke", e, api.OK)
	return ring
}

// tokenOf returns the token that was issued for a tenant with the entry of a serial number.
func tokenOf(t *testing.T, l []api.Minted, key []byte, tenant int, serial int) api.Token {
	t.Helper()
	m := l[serial-1]
	return signed(t, key, api.Token{Tenant: uint8(tenant), Role: m.Role, Expiry: m.Expiry, Serial: uint32(serial)})
}

// exampleRing returns a ring with entries of each role, of which some are revoked.
func exampleRing() []api.Minted {
	return []api.Minted{
		{Role: api.RoleTrade, Expiry: 15},
		{Role: api.RoleOwn, Expiry: 20, Revoked: true},
		{Role: api.RoleView, Expiry: 12},
	}
}

// longRing returns a ring with some entries.
func longRing(many int) []api.Minted {
	var l []api.Minted
	for i := range many {
		l = append(l, api.Minted{Role: uint8(1 + i%3), Expiry: uint64(i), Revoked: i%5 == 4})
	}
	return l
}

// goodRings returns valid rings.
func goodRings() [][]api.Minted {
	all := [][]api.Minted{
		nil, {}, exampleRing(), longRing(1), longRing(30), longRing(31), longRing(32),
		{{Role: api.RoleView}},
		{{Role: api.RoleOwn, Expiry: api.MaxTick, Revoked: true}, {Role: api.RoleOwn, Expiry: api.MaxTick}},
	}
	for seed := range 20 {
		all = append(all, drawnRing(drawer(seed)))
	}
	return all
}

// badRing is a list that is no valid ring, and Check's error.
type badRing struct {
	what string
	l    []api.Minted
	e    api.Errno
}

// badRings returns lists that are no valid rings.
func badRings() []badRing {
	var all []badRing
	for _, many := range []int{33, 34, 64, 256, 257, 1 << 16} {
		all = append(all, badRing{"too many entries", longRing(many), api.ErrMany})
		all = append(all, badRing{"too many entries that are not valid", make([]api.Minted, many), api.ErrMany})
	}
	add := func(what string, many, i int, change func(m *api.Minted)) {
		l := longRing(many)
		change(&l[i])
		all = append(all, badRing{what, l, api.ErrBad})
	}
	for _, many := range []int{1, 3, 32} {
		for _, i := range []int{0, many / 2, many - 1} {
			for _, role := range []uint8{0, 4, 5, 128, 129, 255} {
				add("a role", many, i, func(m *api.Minted) { m.Role = role })
				add("a role of a revoked entry", many, i, func(m *api.Minted) { m.Role, m.Revoked = role, true })
			}
			for _, tick := range lateTicks {
				add("an expiry", many, i, func(m *api.Minted) { m.Expiry = tick })
				add("an expiry of a revoked entry", many, i, func(m *api.Minted) { m.Expiry, m.Revoked = tick, true })
			}
			add("a zero entry", many, i, func(m *api.Minted) { *m = api.Minted{} })
		}
	}
	return all
}

// drawer returns a function that draws numbers below a limit, the same ones in each run.
func drawer(seed int) func(limit int) int {
	x := uint32(seed)
	return func(limit int) int {
		x = x*1664525 + 1013904223
		return int(x>>16) % limit
	}
}

// drawnRing returns a valid ring.
func drawnRing(draw func(limit int) int) []api.Minted {
	var l []api.Minted
	for range draw(33) {
		l = append(l, api.Minted{Role: uint8(1 + draw(3)), Expiry: uint64(draw(40)), Revoked: draw(4) == 0})
	}
	return l
}

package auth_test

import (
	"testing"

	"dunnage/api"
	"dunnage/auth"
)

// P6.4: the examples of the chapter.
func TestPermitExamples(t *testing.T) {
	ring, x := issued(t, nil, aKey, 1, api.RoleTrade, 5, 10)
	if x.Tenant != 1 || x.Role != 2 || x.Expiry != 15 || x.Serial != 1 {
		t.Errorf("Issue: %v", x)
	}
	moved := x
	moved.Serial = 2
	resigned := signed(t, aKey, moved)
	for _, a := range []struct {
		l      []api.Minted
		tenant int
		x      api.Token
		kind   uint8
		now    uint64
		want   api.Errno
	}{
		{ring, 1, x, api.KindSubmit, 10, api.OK},
		{ring, 1, x, api.KindSubmit, 14, api.OK},
		{ring, 1, x, api.KindSubmit, 15, api.ErrExpired},
		{ring, 1, x, api.KindRevoke, 10, api.ErrRole},
		{ring, 0, x, api.KindSubmit, 10, api.ErrTenant},
		{ring, 1, moved, api.KindSubmit, 10, api.ErrTag},
		{ring, 1, resigned, api.KindSubmit, 10, api.ErrSerial},
		{revoked(t, ring, 1), 1, x, api.KindSubmit, 10, api.ErrRevoked},
	} {
		wantErrno(t, "Authorize", auth.Authorize(a.l, aKey, a.tenant, a.x, a.kind, a.now), a.want)
	}
	for _, a := range []struct {
		role, kind uint8
		want       bool
	}{
		{api.RoleView, api.KindWatch, true},
		{api.RoleView, api.KindSubmit, false},
		{api.RoleTrade, api.KindRevoke, false},
		{api.RoleOwn, api.KindRevoke, true},
		{0, api.KindWatch, false},
		{api.RoleOwn, 0, false},
	} {
		if got := auth.Permits(a.role, a.kind); got != a.want {
			t.Errorf("Permits(%d, %d): %v", a.role, a.kind, got)
		}
	}
}

// P6.4: Permits, for all numbers.
func TestPermits(t *testing.T) {
	many := map[uint8]int{}
	for role := range 256 {
		for kind := range 256 {
			got := auth.Permits(uint8(role), uint8(kind))
			if got != specPermits(uint8(role), uint8(kind)) {
				t.Errorf("Permits(%d, %d): %v", role, kind, got)
			}
			if got {
				many[uint8(role)]++
			}
		}
	}
	if len(many) != 3 || many[api.RoleView] != 3 || many[api.RoleTrade] != 5 || many[api.RoleOwn] != 6 {
		t.Errorf("how many kinds roles permit: %v", many)
	}
}

// P6.4: Authorize returns ErrArg for numbers out of their ranges, and for bytes that are no key.
func TestArgumentsOfAuthorize(t *testing.T) {
	for _, x := range []api.Token{tokenOf(t, exampleRing(), aKey, 0, 1), {}, aToken()} {
		for _, tenant := range someTenants {
			for _, kind := range someKinds {
				for _, now := range someTicks {
					e := auth.Authorize(exampleRing(), aKey, tenant, x, kind, now)
					wantErrno(t, "Authorize", e, specAuthorize(exampleRing(), aKey, tenant, x, kind, now))
				}
			}
		}
		for _, key := range append(badKeys(), goodKeys()...) {
			e := auth.Authorize(exampleRing(), key, 0, x, api.KindWatch, 10)
			wantErrno(t, "Authorize under a key", e, specAuthorize(exampleRing(), key, 0, x, api.KindWatch, 10))
		}
	}
}

// eachAltered calls a function with a token, and with tokens of which one field is another one, not signed again and signed again.
func eachAltered(t *testing.T, x api.Token, do func(x api.Token)) {
	t.Helper()
	do(x)
	alter := func(change func(x *api.Token)) {
		other := x
		change(&other)
		do(other)
		do(signed(t, aKey, other))
	}
	for _, n := range []uint8{0, 1, 2, 3, 4, 255} {
		alter(func(x *api.Token) { x.Tenant = n })
		alter(func(x *api.Token) { x.Role = n })
	}
	for _, tick := range someTicks {
		alter(func(x *api.Token) { x.Expiry = tick })
	}
	for _, serial := range someSerials {
		alter(func(x *api.Token) { x.Serial = serial })
	}
	alter(func(x *api.Token) { x.Tag = [32]byte{} })
	do(signed(t, []byte("another key"), x))
}

// P6.4: Authorize, for tokens of a ring and for altered ones.
func TestAuthorize(t *testing.T) {
	seen := map[api.Errno]int{}
	for _, l := range [][]api.Minted{exampleRing(), longRing(5), nil, {{Role: api.RoleView, Expiry: api.MaxTick}}} {
		for serial := range len(exampleRing()) {
			x := tokenOf(t, exampleRing(), aKey, 1, serial+1)
			eachAltered(t, x, func(x api.Token) {
				for _, tenant := range []int{0, 1, 3} {
					for _, kind := range []uint8{0, 1, 2, 3, 4, 5, 6, 7} {
						for _, now := range []uint64{0, 11, 12, 15, api.MaxTick, api.MaxTick + 1} {
							e := auth.Authorize(l, aKey, tenant, x, kind, now)
							wantErrno(t, "Authorize", e, specAuthorize(l, aKey, tenant, x, kind, now))
							seen[e]++
						}
					}
				}
			})
		}
	}
	for _, e := range []api.Errno{api.OK, api.ErrArg, api.ErrTag, api.ErrTenant, api.ErrSerial, api.ErrRevoked, api.ErrExpired, api.ErrRole} {
		if seen[e] < 20 {
			t.Errorf("the error %d was returned %d times", e, seen[e])
		}
	}
}

// P6.4, R1: of all that is wrong with a token, the first is what Authorize returns.
func TestOrderOfErrorsOfAuthorize(t *testing.T) {
	ring := []api.Minted{{Role: api.RoleView, Expiry: 12, Revoked: true}}
	notRevoked := []api.Minted{{Role: api.RoleView, Expiry: 12}}
	right := api.Token{Tenant: 1, Role: api.RoleView, Expiry: 12, Serial: 1}
	otherTenant, otherRole, otherExpiry, otherSerial, noSerial := right, right, right, right, right
	otherTenant.Tenant, otherTenant.Serial = 0, 2
	otherRole.Role = api.RoleOwn
	otherExpiry.Expiry = 99
	otherSerial.Serial = 2
	noSerial.Serial = 0
	for _, a := range []struct {
		what   string
		l      []api.Minted
		key    []byte
		tenant int
		x      api.Token
		kind   uint8
		now    uint64
		want   api.Errno
	}{
		{"too many entries", make([]api.Minted, 33), nil, 3, otherTenant, 0, api.MaxTick + 1, api.ErrMany},
		{"an entry", make([]api.Minted, 32), nil, 3, otherTenant, 0, api.MaxTick + 1, api.ErrBad},
		{"the tenant 3", ring, aKey, 3, otherTenant, api.KindRevoke, 20, api.ErrArg},
		{"the kind 0", ring, aKey, 1, otherTenant, 0, 20, api.ErrArg},
		{"the kind 7", ring, aKey, 1, otherTenant, 7, 20, api.ErrArg},
		{"a late tick", ring, aKey, 1, otherTenant, api.KindRevoke, api.MaxTick + 1, api.ErrArg},
		{"no key", ring, nil, 1, otherTenant, api.KindRevoke, 20, api.ErrArg},
		{"no tag", ring, aKey, 1, otherTenant, api.KindRevoke, 20, api.ErrTag},
		{"another tenant", ring, aKey, 1, signed(t, aKey, otherTenant), api.KindRevoke, 20, api.ErrTenant},
		{"another serial number", ring, aKey, 1, signed(t, aKey, otherSerial), api.KindRevoke, 20, api.ErrSerial},
		{"the serial number 0", ring, aKey, 1, signed(t, aKey, noSerial), api.KindRevoke, 20, api.ErrSerial},
		{"another role", ring, aKey, 1, signed(t, aKey, otherRole), api.KindRevoke, 20, api.ErrSerial},
		{"another expiry", ring, aKey, 1, signed(t, aKey, otherExpiry), api.KindRevoke, 20, api.ErrSerial},
		{"a revoked entry", ring, aKey, 1, signed(t, aKey, right), api.KindRevoke, 20, api.ErrRevoked},
		{"an expired entry", notRevoked, aKey, 1, signed(t, aKey, right), api.KindRevoke, 20, api.ErrExpired},
		{"the role", notRevoked, aKey, 1, signed(t, aKey, right), api.KindRevoke, 11, api.ErrRole},
		{"nothing", notRevoked, aKey, 1, signed(t, aKey, right), api.KindLog, 11, api.OK},
	} {
		wantErrno(t, a.what, auth.Authorize(a.l, a.key, a.tenant, a.x, a.kind, a.now), a.want)
	}
}

package auth_test

import (
	"slices"
	"testing"

	"dunnage/api"
	"dunnage/auth"
)

// P6.2, P6.3: the examples of the chapter.
func TestRingExamples(t *testing.T) {
	l, serial, e := auth.Mint(nil, api.RoleTrade, 5, 10)
	wantMinted(t, "Mint", l, serial, e, []api.Minted{{Role: api.RoleTrade, Expiry: 15}}, 1, api.OK)
	l, serial, e = auth.Mint(l, api.RoleOwn, 1<<62, 10)
	wantMinted(t, "Mint", l, serial, e, []api.Minted{{Role: api.RoleTrade, Expiry: 15}, {Role: api.RoleOwn, Expiry: 1 << 62}}, 2, api.OK)
	for _, a := range []struct {
		role      uint8
		life, now uint64
	}{{0, 5, 10}, {api.RoleTrade, 0, 10}, {api.RoleTrade, 5, 1<<62 + 1}} {
		l, serial, e := auth.Mint(nil, a.role, a.life, a.now)
		wantMinted(t, "Mint", l, serial, e, nil, 0, api.ErrArg)
	}
	l, serial, e = auth.Mint(longRing(32), api.RoleTrade, 5, 10)
	wantMinted(t, "Mint of a ring of 32 entries", l, serial, e, nil, 0, api.ErrFull)
	wantErrno(t, "Check of 33 entries", auth.Check(longRing(33)), api.ErrMany)
	wantErrno(t, "Check of an entry with Role 4", auth.Check([]api.Minted{{Role: 4, Expiry: 15}}), api.ErrBad)

	ring, _ := issued(t, nil, aKey, 1, api.RoleTrade, 5, 10)
	for _, a := range []struct {
		serial uint32
		want   api.Errno
	}{{0, api.ErrSerial}, {2, api.ErrSerial}} {
		l, e := auth.Revoke(ring, a.serial)
		wantList(t, "Revoke", l, e, nil, a.want)
	}
	ring, e = auth.Revoke(ring, 1)
	wantList(t, "Revoke", ring, e, []api.Minted{{Role: api.RoleTrade, Expiry: 15, Revoked: true}}, api.OK)
	ring, e = auth.Revoke(ring, 1)
	wantList(t, "Revoke again", ring, e, nil, api.ErrRevoked)

	for _, a := range []struct {
		now  uint64
		want []uint32
	}{{11, []uint32{1, 3}}, {12, []uint32{1}}, {15, nil}} {
		serials, e := auth.Live(exampleRing(), a.now)
		wantList(t, "Live", serials, e, a.want, api.OK)
	}
}

// wantMinted checks a ring, a serial number and an error number.
func wantMinted(t *testing.T, what string, got []api.Minted, serial uint32, e api.Errno, wanted []api.Minted, wantSerial uint32, wantE api.Errno) {
	t.Helper()
	if !slices.Equal(got, wanted) || serial != wantSerial || e != wantE {
		t.Errorf("%s: %v, %d, %d, want %v, %d, %d", what, got, serial, e, wanted, wantSerial, wantE)
	}
}

// wantIssued checks a ring, a token and an error number.
func wantIssued(t *testing.T, what string, got []api.Minted, x api.Token, e api.Errno, wanted []api.Minted, wantX api.Token, wantE api.Errno) {
	t.Helper()
	if !slices.Equal(got, wanted) || x != wantX || e != wantE {
		t.Errorf("%s: %v, %v, %d, want %v, %v, %d", what, got, x, e, wanted, wantX, wantE)
	}
}

// P6.2: Check returns ErrMany for more than 32 entries, and ErrBad unless all are valid.
func TestCheck(t *testing.T) {
	for _, l := range goodRings() {
		wantErrno(t, "Check of a valid ring", auth.Check(l), api.OK)
	}
	for _, bad := range badRings() {
		wantErrno(t, "Check of a ring with "+bad.what, auth.Check(bad.l), bad.e)
	}
	for _, role := range someRoles {
		for _, expiry := range someTicks {
			for _, isRevoked := range []bool{false, true} {
				l := append(exampleRing(), api.Minted{Role: role, Expiry: expiry, Revoked: isRevoked})
				wantErrno(t, "Check", auth.Check(l), specRing(l))
			}
		}
	}
}

// eachMint calls a function with roles, lives and ticks, of which some are in their ranges.
func eachMint(do func(role uint8, life, now uint64)) {
	for _, role := range someRoles {
		for _, life := range someTicks {
			for _, now := range someTicks {
				do(role, life, now)
			}
		}
	}
}

// P6.2: Mint returns the ring with one more entry, whose Expiry is now + life, but at most MaxTick.
func TestMint(t *testing.T) {
	for _, l := range goodRings() {
		eachMint(func(role uint8, life, now uint64) {
			got, serial, e := auth.Mint(l, role, life, now)
			wanted, wantSerial, wantE := specMint(l, role, life, now)
			wantMinted(t, "Mint", got, serial, e, wanted, wantSerial, wantE)
		})
	}
}

// P6.2: the Expiry just below, at and above MaxTick.
func TestLastExpiry(t *testing.T) {
	for _, a := range []struct{ life, now, want uint64 }{
		{1, 0, 1},
		{1, api.MaxTick - 2, api.MaxTick - 1},
		{1, api.MaxTick - 1, api.MaxTick},
		{1, api.MaxTick, api.MaxTick},
		{2, api.MaxTick - 1, api.MaxTick},
		{api.MaxTick, 0, api.MaxTick},
		{api.MaxTick - 1, 0, api.MaxTick - 1},
		{api.MaxTick - 1, 1, api.MaxTick},
		{api.MaxTick, 1, api.MaxTick},
		{api.MaxTick, api.MaxTick, api.MaxTick},
	} {
		l, serial, e := auth.Mint(nil, api.RoleView, a.life, a.now)
		wantMinted(t, "Mint", l, serial, e, []api.Minted{{Role: api.RoleView, Expiry: a.want}}, 1, api.OK)
	}
}

// P6.2: Issue returns Mint's ring, and the token of the new entry, signed with the key.
func TestIssue(t *testing.T) {
	ring, x, e := auth.Issue(exampleRing(), aKey, 2, api.RoleOwn, 7, 20)
	wantX := signed(t, aKey, api.Token{Tenant: 2, Role: api.RoleOwn, Expiry: 27, Serial: 4})
	wantIssued(t, "Issue", ring, x, e, append(exampleRing(), api.Minted{Role: api.RoleOwn, Expiry: 27}), wantX, api.OK)
	for _, l := range [][]api.Minted{nil, exampleRing(), longRing(31), longRing(32)} {
		eachMint(func(role uint8, life, now uint64) {
			got, x, e := auth.Issue(l, aKey, 1, role, life, now)
			wanted, wantX, wantE := specIssue(l, aKey, 1, role, life, now)
			wantIssued(t, "Issue", got, x, e, wanted, wantX, wantE)
			minted, serial, e := auth.Mint(l, role, life, now)
			wantMinted(t, "Mint", minted, serial, e, got, x.Serial, wantE)
		})
	}
}

// P6.2: Issue returns ErrArg for numbers of no tenant and for bytes that are no key.
func TestIssueForTenantsAndKeys(t *testing.T) {
	for _, l := range goodRings() {
		for _, tenant := range someTenants {
			for _, key := range append(badKeys(), goodKeys()...) {
				got, x, e := auth.Issue(l, key, tenant, api.RoleTrade, 5, 10)
				wanted, wantX, wantE := specIssue(l, key, tenant, api.RoleTrade, 5, 10)
				wantIssued(t, "Issue", got, x, e, wanted, wantX, wantE)
			}
		}
	}
}

// P6.2, R1: ErrArg comes before ErrFull, for each of the arguments.
func TestOrderOfErrorsOfIssue(t *testing.T) {
	full := longRing(32)
	for _, a := range []struct {
		key       []byte
		tenant    int
		role      uint8
		life, now uint64
		want      api.Errno
	}{
		{aKey, 3, 1, 1, 1, api.ErrArg},
		{aKey, -1, 1, 1, 1, api.ErrArg},
		{aKey, 0, 4, 1, 1, api.ErrArg},
		{aKey, 0, 1, 0, 1, api.ErrArg},
		{aKey, 0, 1, 1, api.MaxTick + 1, api.ErrArg},
		{nil, 0, 1, 1, 1, api.ErrArg},
		{make([]byte, 65), 0, 1, 1, 1, api.ErrArg},
		{aKey, 0, 1, 1, 1, api.ErrFull},
	} {
		got, x, e := auth.Issue(full, a.key, a.tenant, a.role, a.life, a.now)
		wantIssued(t, "Issue", got, x, e, nil, api.Token{}, a.want)
	}
	got, serial, e := auth.Mint(full, 0, 1, 1)
	wantMinted(t, "Mint of a full ring", got, serial, e, nil, 0, api.ErrArg)
	got, serial, e = auth.Mint(full, 1, 1, 1)
	wantMinted(t, "Mint of a full ring", got, serial, e, nil, 0, api.ErrFull)
}

// P6.3: Revoke returns the ring in which that entry is revoked, also one that is expired.
func TestRevoke(t *testing.T) {
	for _, l := range goodRings() {
		for _, serial := range someSerials {
			got, e := auth.Revoke(l, serial)
			wanted, wantE := specRevoke(l, serial)
			wantList(t, "Revoke", got, e, wanted, wantE)
		}
	}
	got, e := auth.Revoke([]api.Minted{{Role: api.RoleView}}, 1)
	wantList(t, "Revoke of an expired entry", got, e, []api.Minted{{Role: api.RoleView, Revoked: true}}, api.OK)
}

// P6.3: Live returns the serial numbers of the entries that are neither revoked nor expired.
func TestLive(t *testing.T) {
	for _, l := range goodRings() {
		for now := range uint64(42) {
			got, e := auth.Live(l, now)
			wanted, wantE := specLive(l, now)
			wantList(t, "Live", got, e, wanted, wantE)
		}
		for _, now := range someTicks {
			got, e := auth.Live(l, now)
			wanted, wantE := specLive(l, now)
			wantList(t, "Live", got, e, wanted, wantE)
		}
	}
	for _, now := range lateTicks {
		got, e := auth.Live(nil, now)
		wantList(t, "Live", got, e, nil, api.ErrArg)
	}
	got, e := auth.Live([]api.Minted{{Role: api.RoleView, Expiry: api.MaxTick}}, api.MaxTick)
	wantList(t, "Live at the last tick", got, e, nil, api.OK)
	got, e = auth.Live([]api.Minted{{Role: api.RoleView, Expiry: api.MaxTick}}, api.MaxTick-1)
	wantList(t, "Live before the last tick", got, e, []uint32{1}, api.OK)
}

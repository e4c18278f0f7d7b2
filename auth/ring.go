package auth

import (
	"slices"

	"dunnage/api"
)

// Check returns an error unless a ring is valid.
func Check(l []api.Minted) api.Errno {
	if len(l) > api.MaxTokens {
		return api.ErrMany
	}
	for _, m := range l {
		if !isRole(m.Role) || m.Expiry > api.MaxTick {
			return api.ErrBad
		}
	}
	return api.OK
}

// Mint returns a ring with one more entry, and its serial number.
func Mint(l []api.Minted, role uint8, life, now uint64) ([]api.Minted, uint32, api.Errno) {
	if e := Check(l); e != api.OK {
		return nil, 0, e
	}
	if !isRole(role) || life < 1 || life > api.MaxTick || now > api.MaxTick {
		return nil, 0, api.ErrArg
	}
	if len(l) == api.MaxTokens {
		return nil, 0, api.ErrFull
	}
	// The sum is at most twice MaxTick, which does not overflow.
	m := api.Minted{Role: role, Expiry: min(now+life, api.MaxTick)}
	return append(slices.Clone(l), m), uint32(len(l) + 1), api.OK
}

// Issue returns a ring with one more entry, and its token.
func Issue(l []api.Minted, key []byte, tenant int, role uint8, life, now uint64) ([]api.Minted, api.Token, api.Errno) {
	if e := Check(l); e != api.OK {
		return nil, api.Token{}, e
	}
	if !isTenant(tenant) || !isKey(key) {
		return nil, api.Token{}, api.ErrArg
	}
	ring, serial, e := Mint(l, role, life, now)
	if e != api.OK {
		return nil, api.Token{}, e
	}
	t, e := Sign(key, unsigned(tenant, serial, ring[serial-1]))
	if e != api.OK {
		return nil, api.Token{}, e
	}
	return ring, t, api.OK
}

// Revoke returns a ring in which an entry is revoked.
func Revoke(l []api.Minted, serial uint32) ([]api.Minted, api.Errno) {
	if e := Check(l); e != api.OK {
		return nil, e
	}
	m, found := entry(l, serial)
	if !found {
		return nil, api.ErrSerial
	}
	if m.Revoked {
		return nil, api.ErrRevoked
	}
	ring := slices.Clone(l)
	ring[serial-1].Revoked = true
	return ring, api.OK
}

// Live returns the serial numbers of the entries that are neither revoked nor expired.
func Live(l []api.Minted, now uint64) ([]uint32, api.Errno) {
	if e := Check(l); e != api.OK {
		return nil, e
	}
	if now > api.MaxTick {
		return nil, api.ErrArg
	}
	var serials []uint32
	for i, m := range l {
		if !m.Revoked && !expired(m, now) {
			serials = append(serials, uint32(i+1))
		}
	}
	return serials, api.OK
}

// entry returns the entry with a serial number, and whether there is one.
func entry(l []api.Minted, serial uint32) (api.Minted, bool) {
	if serial < 1 || uint64(serial) > uint64(len(l)) {
		return api.Minted{}, false
	}
	return l[serial-1], true
}

// expired reports whether an entry is expired at a tick.
func expired(m api.Minted, now uint64) bool { return now >= m.Expiry }

// unsigned returns the token of a tenant's entry, without the tag.
func unsigned(tenant int, serial uint32, m api.Minted) api.Token {
	return api.Token{Tenant: uint8(tenant), Role: m.Role, Expiry: m.Expiry, Serial: serial}
}

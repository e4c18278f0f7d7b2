package auth_test

import (
	"bytes"
	"crypto/hmac"
	"crypto/sha256"
	"encoding/binary"
	"slices"

	"dunnage/api"
)

// The functions of this file restate the chapter's definitions as literally as possible.

// specHead returns the first 14 bytes of the encoding of a token.
func specHead(t api.Token) []byte {
	b := []byte{t.Tenant, t.Role}
	b = binary.BigEndian.AppendUint64(b, t.Expiry)
	return binary.BigEndian.AppendUint32(b, t.Serial)
}

// specEncoding returns the encoding of a token.
func specEncoding(t api.Token) []byte { return slices.Concat(specHead(t), t.Tag[:]) }

// specKey reports whether bytes are a key.
func specKey(key []byte) bool { return len(key) >= 1 && len(key) <= 64 }

// specTag returns the tag of the head of a token under a key.
func specTag(key []byte, t api.Token) [32]byte {
	mac := hmac.New(sha256.New, key)
	mac.Write(specHead(t))
	return [32]byte(mac.Sum(nil))
}

// specSign returns what Sign returns.
func specSign(key []byte, t api.Token) (api.Token, api.Errno) {
	if !specKey(key) {
		return api.Token{}, api.ErrArg
	}
	return api.Token{Tenant: t.Tenant, Role: t.Role, Expiry: t.Expiry, Serial: t.Serial, Tag: specTag(key, t)}, api.OK
}

// specGenuine returns what Genuine returns.
func specGenuine(key []byte, t api.Token) (bool, api.Errno) {
	if !specKey(key) {
		return false, api.ErrArg
	}
	tag := specTag(key, t)
	return bytes.Equal(t.Tag[:], tag[:]), api.OK
}

// specRing returns what Check returns.
func specRing(l []api.Minted) api.Errno {
	if len(l) > 32 {
		return api.ErrMany
	}
	for _, m := range l {
		if m.Role != 1 && m.Role != 2 && m.Role != 3 || m.Expiry > 1<<62 {
			return api.ErrBad
		}
	}
	return api.OK
}

// specMintable reports whether a role, a life and a tick are in the ranges that Mint names.
func specMintable(role uint8, life, now uint64) bool {
	return role >= 1 && role <= 3 && life >= 1 && life <= 1<<62 && now <= 1<<62
}

// specMinted returns a ring with one more entry, and its serial number.
func specMinted(l []api.Minted, role uint8, life, now uint64) ([]api.Minted, uint32) {
	expiry := uint64(1 << 62)
	if life < expiry-now {
		expiry = now + life
	}
	return slices.Concat(l, []api.Minted{{Role: role, Expiry: expiry}}), uint32(len(l) + 1)
}

// specMint returns what Mint returns.
func specMint(l []api.Minted, role uint8, life, now uint64) ([]api.Minted, uint32, api.Errno) {
	if e := specRing(l); e != api.OK {
		return nil, 0, e
	}
	if !specMintable(role, life, now) {
		return nil, 0, api.ErrArg
	}
	if len(l) == 32 {
		return nil, 0, api.ErrFull
	}
	ring, serial := specMinted(l, role, life, now)
	return ring, serial, api.OK
}

// specIssue returns what Issue returns.
func specIssue(l []api.Minted, key []byte, tenant int, role uint8, life, now uint64) ([]api.Minted, api.Token, api.Errno) {
	if e := specRing(l); e != api.OK {
		return nil, api.Token{}, e
	}
	if tenant < 0 || tenant > 2 || !specMintable(role, life, now) || !specKey(key) {
		return nil, api.Token{}, api.ErrArg
	}
	if len(l) == 32 {
		return nil, api.Token{}, api.ErrFull
	}
	ring, serial := specMinted(l, role, life, now)
	t := api.Token{Tenant: uint8(tenant), Role: role, Expiry: ring[len(l)].Expiry, Serial: serial}
	t.Tag = specTag(key, t)
	return ring, t, api.OK
}

// specHas reports whether there is an entry with a serial number.
func specHas(l []api.Minted, serial uint32) bool {
	for i := range l {
		if uint32(i)+1 == serial {
			return true
		}
	}
	return false
}

// specRevoke returns what Revoke returns.
func specRevoke(l []api.Minted, serial uint32) ([]api.Minted, api.Errno) {
	if e := specRing(l); e != api.OK {
		return nil, e
	}
	if !specHas(l, serial) {
		return nil, api.ErrSerial
	}
	if l[serial-1].Revoked {
		return nil, api.ErrRevoked
	}
	m := l[serial-1]
	return slices.Concat(l[:serial-1], []api.Minted{{Role: m.Role, Expiry: m.Expiry, Revoked: true}}, l[serial:]), api.OK
}

// specLive returns what Live returns.
func specLive(l []api.Minted, now uint64) ([]uint32, api.Errno) {
	if e := specRing(l); e != api.OK {
		return nil, e
	}
	if now > 1<<62 {
		return nil, api.ErrArg
	}
	var serials []uint32
	for serial := uint32(1); serial <= 32; serial++ {
		if specHas(l, serial) && !l[serial-1].Revoked && now < l[serial-1].Expiry {
			serials = append(serials, serial)
		}
	}
	return serials, api.OK
}

// specPermits returns what Permits returns.
func specPermits(role, kind uint8) bool {
	switch kind {
	case 3, 4, 5: // Query, Watch and Log
		return role == 1 || role == 2 || role == 3
	case 1, 2: // Submit and Cancel
		return role == 2 || role == 3
	case 6: // Revoke
		return role == 3
	}
	return false
}

// specAuthorize returns what Authorize returns.
func specAuthorize(l []api.Minted, key []byte, tenant int, t api.Token, kind uint8, now uint64) api.Errno {
	if e := specRing(l); e != api.OK {
		return e
	}
	if tenant < 0 || tenant > 2 || kind < 1 || kind > 6 || now > 1<<62 || !specKey(key) {
		return api.ErrArg
	}
	if is, _ := specGenuine(key, t); !is {
		return api.ErrTag
	}
	if int(t.Tenant) != tenant {
		return api.ErrTenant
	}
	if !specHas(l, t.Serial) || l[t.Serial-1].Role != t.Role || l[t.Serial-1].Expiry != t.Expiry {
		return api.ErrSerial
	}
	if l[t.Serial-1].Revoked {
		return api.ErrRevoked
	}
	if now >= l[t.Serial-1].Expiry {
		return api.ErrExpired
	}
	if !specPermits(l[t.Serial-1].Role, kind) {
		return api.ErrRole
	}
	return api.OK
}

package auth_test

import (
	"bytes"
	"math"
	"slices"
	"testing"

	"dunnage/api"
	"dunnage/auth"
)

// arguments is what the functions that take a ring take.
type arguments struct {
	l          []api.Minted
	key        []byte
	tenant     int
	role, kind uint8
	life, now  uint64
	serial     uint32
	x          api.Token
}

// outcome is what a function returned: a ring, serial numbers, a token, and the error.
type outcome struct {
	name    string
	l       []api.Minted
	serials []uint32
	x       api.Token
	e       api.Errno
}

// isZero reports whether all results but the error are zero values.
func (o outcome) isZero() bool {
	return len(o.l) == 0 && (len(o.serials) == 0 || o.name == "Mint" && o.serials[0] == 0) && o.x == api.Token{}
}

// outcomes calls all functions that take a ring.
func outcomes(a arguments) []outcome {
	minted, serial, e := auth.Mint(a.l, a.role, a.life, a.now)
	all := []outcome{{name: "Mint", l: minted, serials: []uint32{serial}, e: e}}
	ring, x, e := auth.Issue(a.l, a.key, a.tenant, a.role, a.life, a.now)
	all = append(all, outcome{name: "Issue", l: ring, x: x, e: e})
	after, e := auth.Revoke(a.l, a.serial)
	all = append(all, outcome{name: "Revoke", l: after, e: e})
	serials, e := auth.Live(a.l, a.now)
	all = append(all, outcome{name: "Live", serials: serials, e: e})
	all = append(all, outcome{name: "Check", e: auth.Check(a.l)})
	return append(all, outcome{name: "Authorize", e: auth.Authorize(a.l, a.key, a.tenant, a.x, a.kind, a.now)})
}

// sameOutcomes reports whether all functions returned the same.
func sameOutcomes(some, others []outcome) bool {
	return slices.EqualFunc(some, others, func(a, b outcome) bool {
		return a.name == b.name && slices.Equal(a.l, b.l) && slices.Equal(a.serials, b.serials) && a.x == b.x && a.e == b.e
	})
}

// goodArguments returns arguments with which most calls succeed.
func goodArguments(l []api.Minted) arguments {
	return arguments{l: l, key: aKey, tenant: 1, role: api.RoleTrade, kind: api.KindWatch, life: 5, now: 10, serial: 1}
}

// P6.2, R1, R2: Check's error comes first, whatever the other arguments are.
func TestCheckComesFirst(t *testing.T) {
	worse := arguments{tenant: 3, life: 0, now: api.MaxTick + 1, x: aToken()}
	for _, a := range []arguments{goodArguments(nil), worse} {
		for _, bad := range badRings() {
			a.l = bad.l
			for _, o := range outcomes(a) {
				if o.e != bad.e || !o.isZero() {
					t.Errorf("%s of a ring with %s: %v, want the error %d and zero values", o.name, bad.what, o, bad.e)
				}
			}
		}
	}
}

// roomy returns a list with the same elements, and the longer array behind it.
func roomy[T any](l []T, more ...T) (part, behind []T) {
	behind = append(slices.Clone(l), more...)
	return behind[:len(l)], behind
}

// P1 (R3): arguments are only read, also behind their length, and what is there does not matter.
func TestArgumentsAreOnlyRead(t *testing.T) {
	for _, l := range goodRings() {
		for serial := range uint32(34) {
			a := goodArguments(l)
			a.serial = serial
			before := outcomes(a)
			ring, behind := roomy(l, api.Minted{Role: 9}, api.Minted{Role: 1, Expiry: 99})
			key, behindKey := roomy(aKey, 1, 2, 3)
			wantRing, wantKey := slices.Clone(behind), slices.Clone(behindKey)
			a.l, a.key = ring, key
			if !sameOutcomes(outcomes(a), before) {
				t.Errorf("a call depends on a capacity: %v", l)
			}
			if !slices.Equal(behind, wantRing) || !bytes.Equal(behindKey, wantKey) {
				t.Errorf("a call changed its arguments: %v", l)
			}
		}
	}
}

// P1 (R3): the functions that take bytes only read them, also behind their length.
func TestBytesAreOnlyRead(t *testing.T) {
	b, behind := roomy(auth.Encode(aToken()), 7, 8, 9)
	key, behindKey := roomy(aKey, 1, 2, 3)
	wantBytes, wantKey := bytes.Clone(behind), bytes.Clone(behindKey)
	x, e := auth.Decode(b)
	want(t, "Decode", x, e, aToken(), api.OK)
	s := signed(t, key, x)
	want(t, "Sign", s, api.OK, signed(t, aKey, x), api.OK)
	is, e := auth.Genuine(key, s)
	want(t, "Genuine", is, e, true, api.OK)
	if !bytes.Equal(behind, wantBytes) || !bytes.Equal(behindKey, wantKey) {
		t.Error("a call changed its arguments")
	}
}

// spoil changes all elements of a list, also behind its length.
func spoil[T any](l []T, to T) {
	l = l[:cap(l)]
	for i := range l {
		l[i] = to
	}
}

// P1 (R3): results share no memory with arguments, nor with one another, and nothing is kept from call to call.
func TestResultsAreNewMemory(t *testing.T) {
	for _, l := range goodRings() {
		for serial := range uint32(5) {
			ring, behind := roomy(l, api.Minted{Role: 9}, api.Minted{Role: 8})
			before := slices.Clone(behind)
			a := goodArguments(ring)
			a.serial = serial
			first, second := outcomes(a), outcomes(a)
			for _, o := range first {
				spoil(o.l, api.Minted{Role: 77})
				spoil(o.serials, 77)
			}
			if !slices.Equal(behind, before) {
				t.Errorf("a result shares memory with an argument: %v", l)
			}
			if !sameOutcomes(outcomes(a), second) {
				t.Errorf("a result is kept: %v", l)
			}
		}
	}
	first, second := auth.Encode(aToken()), auth.Encode(aToken())
	spoil(first, 0)
	if !bytes.Equal(second, specEncoding(aToken())) || !bytes.Equal(auth.Encode(aToken()), second) {
		t.Error("the results of Encode share memory")
	}
}

// P1 (R3): two rings that are made of one are independent of each other.
func TestRingsOfOneRing(t *testing.T) {
	for many := range 32 {
		l, _, e := auth.Mint(longRing(many), api.RoleView, 1, 1)
		wantErrno(t, "Mint", e, api.OK)
		before := slices.Clone(l)
		if many < 31 {
			first, _ := issued(t, l, aKey, 0, api.RoleTrade, 3, 3)
			second, _ := issued(t, l, aKey, 0, api.RoleOwn, 4, 4)
			wantList(t, "the first ring", first, api.OK, append(slices.Clone(before), api.Minted{Role: api.RoleTrade, Expiry: 6}), api.OK)
			wantList(t, "the second ring", second, api.OK, append(slices.Clone(before), api.Minted{Role: api.RoleOwn, Expiry: 8}), api.OK)
		}
		revoked(t, l, uint32(many+1))
		wantList(t, "the ring", l, api.OK, before, api.OK)
	}
}

// P1 (R4): nil and empty slices are the same.
func TestNilAndEmpty(t *testing.T) {
	if !sameOutcomes(outcomes(goodArguments(nil)), outcomes(goodArguments([]api.Minted{}))) {
		t.Error("a call depends on whether a ring is nil")
	}
	a, b := goodArguments(exampleRing()), goodArguments(exampleRing())
	a.key, b.key = nil, []byte{}
	if !sameOutcomes(outcomes(a), outcomes(b)) {
		t.Error("a call depends on whether a key is nil")
	}
	for _, none := range [][]byte{nil, {}} {
		x, e := auth.Decode(none)
		want(t, "Decode of no bytes", x, e, api.Token{}, api.ErrForm)
	}
}

// P1 (R2, R5, R7): no call panics or goes on for ever, whatever the arguments are, and errors have no results.
func TestAnyArguments(t *testing.T) {
	draw := drawer(1)
	keys := append(goodKeys(), badKeys()...)
	tick := func() uint64 { return someTicks[draw(len(someTicks))] }
	for round := range 6000 {
		l := drawnRing(draw)
		if round%3 == 2 {
			l = append(l, api.Minted{Role: someRoles[draw(len(someRoles))], Expiry: tick(), Revoked: draw(2) == 0})
		}
		a := arguments{
			l: l, key: keys[draw(len(keys))], tenant: someTenants[draw(len(someTenants))],
			role: someRoles[draw(len(someRoles))], kind: someKinds[draw(len(someKinds))],
			life: tick(), now: tick(), serial: someSerials[draw(len(someSerials))],
		}
		a.x = api.Token{Tenant: uint8(a.tenant), Role: a.role, Expiry: tick(), Serial: a.serial}
		for _, o := range outcomes(a) {
			if o.e != api.OK && !o.isZero() {
				t.Errorf("%s of %v: a result with the error %d", o.name, a, o.e)
			}
		}
		wantErrno(t, "Authorize", auth.Authorize(a.l, a.key, a.tenant, a.x, a.kind, a.now), specAuthorize(a.l, a.key, a.tenant, a.x, a.kind, a.now))
	}
	many := goodArguments(make([]api.Minted, 1<<20))
	many.serial = math.MaxUint32
	for _, o := range outcomes(many) {
		if o.e != api.ErrMany || !o.isZero() {
			t.Errorf("%s of a very long ring: %d", o.name, o.e)
		}
	}
}

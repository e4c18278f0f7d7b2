package auth_test

import (
	"fmt"
	"slices"
	"testing"

	"dunnage/api"
	"dunnage/auth"
)

// record is what a test knows of a token that was issued.
type record struct {
	tenant  int
	x       api.Token
	at      uint64
	revoked bool
}

// yard is a history of all tenants: their rings, and all tokens that were issued.
type yard struct {
	rings   [3][]api.Minted
	records []record
	now     uint64
}

// step issues or revokes a token that is drawn, and goes on to a later tick.
func (y *yard) step(t *testing.T, draw func(limit int) int) {
	t.Helper()
	tenant := draw(3)
	if l := y.rings[tenant]; draw(3) > 0 && len(l) < 32 {
		role, life := uint8(1+draw(3)), uint64(1+draw(30))
		ring, x := issued(t, l, aKey, tenant, role, life, y.now)
		if x.Role != role || x.Expiry != y.now+life || int(x.Serial) != len(l)+1 {
			t.Errorf("the token %v of the entry %d is issued at %d for %d ticks", x, len(l)+1, y.now, life)
		}
		y.rings[tenant] = ring
		y.records = append(y.records, record{tenant, x, y.now, false})
	} else if len(y.records) > 0 {
		r := &y.records[draw(len(y.records))]
		if !r.revoked {
			y.rings[r.tenant] = revoked(t, y.rings[r.tenant], r.x.Serial)
			r.revoked = true
		}
	}
	y.now += uint64(draw(3))
}

// eachYard calls a function with yards after histories of several lengths.
func eachYard(t *testing.T, do func(y yard)) {
	t.Helper()
	for seed := range 6 {
		draw, y := drawer(seed), yard{}
		for i := range 60 {
			y.step(t, draw)
			if i%12 == 11 {
				do(y)
			}
		}
	}
}

// isRightful reports whether a token is one that was issued for a tenant and is neither revoked nor expired, and whose role permits a kind.
func (y yard) isRightful(tenant int, x api.Token, kind uint8, now uint64) bool {
	return slices.ContainsFunc(y.records, func(r record) bool {
		return r.tenant == tenant && r.x == x && !r.revoked && now < r.x.Expiry && specPermits(r.x.Role, kind)
	})
}

// wantRightful checks that a token is authorized just if it is rightful.
func wantRightful(t *testing.T, what string, y yard, tenant int, x api.Token, kind uint8, now uint64) {
	t.Helper()
	e := auth.Authorize(y.rings[tenant], aKey, tenant, x, kind, now)
	if (e == api.OK) != y.isRightful(tenant, x, kind, now) {
		t.Errorf("%s for the tenant %d, the kind %d, at %d: %v is answered with %d", what, tenant, kind, now, x, e)
	}
}

// P6.6: tokens that were issued are authorized, for their tenant only, unless they are revoked or expired, for what their roles permit.
func TestIssuedTokens(t *testing.T) {
	eachYard(t, func(y yard) {
		for _, r := range y.records {
			for tenant := range 3 {
				for _, kind := range requests {
					for _, now := range []uint64{0, r.at, r.x.Expiry - 1, r.x.Expiry, r.x.Expiry + 1, y.now} {
						wantRightful(t, "a token", y, tenant, r.x, kind, now)
					}
				}
			}
		}
	})
}

// P6.6: no token is authorized that differs in a bit from one that was issued, signed again or not, nor one that was signed with another key.
func TestForgedTokens(t *testing.T) {
	draw, y := drawer(3), yard{}
	for range 20 {
		y.step(t, draw)
	}
	for _, r := range y.records {
		b := auth.Encode(r.x)
		for bit := range 46 * 8 {
			b[bit/8] ^= 1 << (bit % 8)
			x, e := auth.Decode(b)
			wantErrno(t, "Decode", e, api.OK)
			b[bit/8] ^= 1 << (bit % 8)
			wantRightful(t, "another token", y, r.tenant, x, api.KindWatch, r.at)
			for tenant := range 3 {
				wantRightful(t, "another token, signed", y, tenant, signed(t, aKey, x), api.KindWatch, r.at)
			}
		}
		for _, key := range goodKeys() {
			wantRightful(t, "a token with a key", y, r.tenant, signed(t, key, r.x), api.KindWatch, r.at)
		}
	}
}

// P6.7: what a role permits the next role permits as well.
func TestNextRole(t *testing.T) {
	for role := api.RoleView; role < api.RoleOwn; role++ {
		for kind := range 256 {
			if auth.Permits(role, uint8(kind)) && !auth.Permits(role+1, uint8(kind)) {
				t.Errorf("the role %d permits %d, and the next one does not", role, kind)
			}
		}
	}
}

// P6.7: a token is authorized, for what its role permits, from the tick of its issue up to the tick before its Expiry, and never again from then on.
func TestLifeOfAToken(t *testing.T) {
	for _, role := range []uint8{api.RoleView, api.RoleTrade, api.RoleOwn} {
		for _, now := range []uint64{0, 10, api.MaxTick - 4, api.MaxTick - 3, api.MaxTick} {
			ring, x := issued(t, exampleRing(), aKey, 2, role, 4, now)
			for at := now; at < now+20 && at <= api.MaxTick; at++ {
				for _, kind := range requests {
					wanted := api.OK
					if at >= now+4 || at == api.MaxTick {
						wanted = api.ErrExpired
					} else if !auth.Permits(role, kind) {
						wanted = api.ErrRole
					}
					what := fmt.Sprintf("the role %d, issued at %d, the kind %d at %d", role, now, kind, at)
					wantErrno(t, what, auth.Authorize(ring, aKey, 2, x, kind, at), wanted)
				}
			}
			wantErrno(t, "at the last tick", auth.Authorize(ring, aKey, 2, x, api.KindWatch, api.MaxTick), api.ErrExpired)
		}
	}
}

// answers returns what Authorize returns for a token, for all kinds at some ticks.
func answers(l []api.Minted, tenant int, x api.Token) []api.Errno {
	var all []api.Errno
	for _, kind := range requests {
		for _, now := range []uint64{0, x.Expiry - 1, x.Expiry, x.Expiry + 9, api.MaxTick} {
			all = append(all, auth.Authorize(l, aKey, tenant, x, kind, now))
		}
	}
	return all
}

// P6.7: minting further tokens, and revoking others, changes nothing for a token; its own revocation is for ever.
func TestOtherTokensChangeNothing(t *testing.T) {
	for seed := range 4 {
		draw, y := drawer(seed), yard{}
		for range 12 {
			y.step(t, draw)
		}
		var before [][]api.Errno
		changes := 0
		old := slices.Clone(y.records)
		for _, r := range old {
			before = append(before, answers(y.rings[r.tenant], r.tenant, r.x))
		}
		for range 40 {
			y.step(t, draw)
			for i, r := range old {
				after := answers(y.rings[r.tenant], r.tenant, r.x)
				wanted := before[i]
				if y.records[i].revoked && !r.revoked {
					wanted = slices.Repeat([]api.Errno{api.ErrRevoked}, len(after))
					changes++
				}
				if !slices.Equal(after, wanted) {
					t.Errorf("%v is answered with %v, want %v", r.x, after, wanted)
				}
			}
		}
		if changes == 0 {
			t.Error("none of the tokens was revoked later")
		}
	}
}

// P6.7: Live lists exactly the tokens that are authorized for Watch.
func TestLiveTokensWatch(t *testing.T) {
	for _, l := range goodRings() {
		for _, now := range []uint64{0, 1, 11, 12, 14, 15, 20, 31, 32, api.MaxTick - 1, api.MaxTick} {
			var watching []uint32
			for i := range l {
				if auth.Authorize(l, aKey, 1, tokenOf(t, l, aKey, 1, i+1), api.KindWatch, now) == api.OK {
					watching = append(watching, uint32(i+1))
				}
			}
			got, e := auth.Live(l, now)
			wantList(t, "Live", got, e, watching, api.OK)
		}
	}
}

// P6.2, P6.3: what is returned for a valid ring is valid, and earlier entries stay as they are but for a revocation.
func TestRingsStayValid(t *testing.T) {
	draw, y := drawer(9), yard{}
	for range 150 {
		before := y.rings
		y.step(t, draw)
		for tenant, l := range y.rings {
			wantErrno(t, "Check", auth.Check(l), api.OK)
			for i, m := range before[tenant] {
				if l[i].Role != m.Role || l[i].Expiry != m.Expiry || m.Revoked && !l[i].Revoked {
					t.Errorf("the entry %v becomes %v", m, l[i])
				}
			}
		}
	}
}

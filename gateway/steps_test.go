package gateway_test

import (
	"bytes"
	"crypto/hmac"
	"crypto/sha256"
	"math"
	"slices"
	"testing"

	"dunnage/api"
	"dunnage/gateway"
	"dunnage/wire"
)

// P10.2, P10.3, P10.5: the chapter's example.
func TestExample(t *testing.T) {
	conf, key := encoded(exampleConfig()), []byte{1}
	mint := mintStep(0, 2, 100)
	outs, e := gateway.Run(conf, key, []api.Step{mint})
	head := []byte{0, 2, 0, 0, 0, 0, 0, 0, 0, 100, 0, 0, 0, 1}
	tag := hmac.New(sha256.New, key)
	tag.Write(head)
	token := slices.Concat(head, tag.Sum(nil))
	wantOuts(t, "a token", outs, e, []api.Out{{Bytes: slices.Concat([]byte{0, 59, 18, 0, 0, 0, 0, 0, 0, 0, 0, 0, 0}, token)}}, api.OK)
	submit := slices.Concat([]byte{0, 51, 1}, token, []byte{0, 0})
	script := slices.Concat([]api.Step{mint, bytesStep(0, submit), bytesStep(1, submit)}, ticks(9), []api.Step{bytesStep(0, []byte{0, 1})})
	all, e := gateway.Run(conf, key, script)
	wantOuts(t, "the example", all, e, []api.Out{
		outs[0],
		{Tenant: 0, Bytes: []byte{0, 15, 1, 0, 0, 0, 0, 0, 0, 0, 0, 0, 0, 0, 1}},
		{Tenant: 1, Bytes: []byte{0, 13, 1, 0, 190, 0, 0, 0, 0, 0, 0, 0, 0}},
		{Tenant: 0, Tick: 9, Bytes: []byte{0, 15, 16, 0, 0, 0, 0, 0, 0, 0, 0, 0, 9, 0, 1}},
		{Tenant: 0, Tick: 9, Bytes: []byte{0, 13, 0, 0, 10, 0, 0, 0, 0, 0, 0, 0, 9}},
	}, api.OK)
	text, e := gateway.Format(append(ticks(2), stallStep(1, 0)))
	wantText(t, "Format", text, e, "tick 2\nstall 1 0\n", api.OK)
}

// P10.2: all steps of long histories do what the chapter says, by Step and by the function of their kind.
func TestSteps(t *testing.T) {
	t.Parallel()
	eachMoment(func(m moment) {
		wantResult(t, "a step of a history", m.after, specStep(m.before, m.s))
		if m.s.Kind >= api.StepTick && m.s.Kind <= api.StepMint {
			wantResult(t, "the same by a function of its own", runOwn(m.before, m.s), m.after)
		}
	})
}

// P10.2: the steps of worlds of all kinds.
func TestStepsOfVariants(t *testing.T) {
	for _, v := range goodVariants() {
		for tenant := range 4 {
			watch := api.Request{Kind: api.KindWatch, Token: tokenFor(aKey, tenant, api.RoleOwn, api.MaxTick, 1)}
			for _, s := range []api.Step{tickStep(), bytesStep(tenant, nil), bytesStep(tenant, []byte{0, 3, 1, 9, 9, 9}), bytesStep(tenant, frameOf(watch)), stallStep(tenant, 0), stallStep(tenant, 1), mintStep(tenant, 2, 7)} {
				wantResult(t, "a step of "+v.what, run(v.w, s), specStep(v.w, s))
			}
		}
	}
}

// P10.2: a tick; the orders that are done are outputs of their tenants at the new tick.
func TestTick(t *testing.T) {
	carrying := func(id, drop int) api.Order { return api.Order{Id: id, Drop: drop, State: api.OrderCarrying} }
	unloading := func(place, id, left int) api.Robot {
		return api.Robot{Place: place, State: api.RobotUnloading, Order: id, Left: left}
	}
	w := changed(busyWorld(), func(w *api.World) {
		w.Fleet = api.Fleet{Tick: 30, Crews: []api.Crew{
			{Robots: []api.Robot{unloading(1, 1, 1)}, Book: api.Book{Orders: []api.Order{carrying(1, 0)}}, Mover: -1},
			{
				Robots: []api.Robot{unloading(26, 3, 1), unloading(34, 1, 2), unloading(29, 2, 1)},
				Book:   api.Book{Orders: []api.Order{carrying(1, 2), carrying(2, 1), carrying(3, 0)}},
				Mover:  -1,
			},
			{Robots: []api.Robot{unloading(58, 1, 1)}, Book: api.Book{Orders: []api.Order{carrying(1, 0)}}, Mover: -1},
		}}
	})
	done := func(tenant, order int, tick uint64) api.Out {
		return outOf(tenant, api.Reply{Kind: api.KindDone, Order: order, Tick: tick})
	}
	r := run(w, tickStep())
	wantOuts(t, "the orders that are done", r.outs, r.e, []api.Out{done(0, 1, 31), done(1, 3, 31), done(1, 2, 31), done(2, 1, 31)}, api.OK)
	if r.w.Fleet.Tick != 31 || r.w.Fleet.Crews[1].Book.Orders[2].State != api.OrderDone || r.w.Fleet.Crews[1].Robots[1].Left != 1 {
		t.Errorf("the fleet after a tick: %v", r.w.Fleet)
	}
	r.w.Fleet = w.Fleet
	if !equalWorlds(r.w, w) {
		t.Errorf("a tick changed more than the fleet: %v", r.w)
	}
	r = run(after(t, w, tickStep()), tickStep())
	wantOuts(t, "the order that is done next", r.outs, r.e, []api.Out{done(1, 1, 32)}, api.OK)
	r = run(busyWorld(), tickStep())
	wantOuts(t, "a tick without an order that is done", r.outs, r.e, nil, api.OK)
}

// P10.2: at MaxTick a tick changes nothing, and each present tenant is told so; all other steps go on.
func TestHalted(t *testing.T) {
	halted := func(tenants ...int) []api.Out {
		var l []api.Out
		for _, tenant := range tenants {
			l = append(l, api.Out{Tenant: tenant, Tick: api.MaxTick, Bytes: []byte{0, 13, 17, 1, 24, 0x40, 0, 0, 0, 0, 0, 0, 0}})
		}
		return l
	}
	gap := changed(gapWorld(), func(w *api.World) { w.Fleet.Tick = api.MaxTick })
	wantResult(t, "a tick of MaxTick", run(gap, tickStep()), result{w: gap, outs: halted(0, 2)})
	full := changed(busyWorld(), func(w *api.World) {
		fresh, _ := gateway.New(encoded(crowdConfig()), []byte(aKey))
		w.Fleet = fresh.Fleet
		w.Fleet.Tick = api.MaxTick
	})
	wantResult(t, "a tick of MaxTick", run(full, tickStep()), result{w: full, outs: halted(0, 1, 2)})
	before := changed(full, func(w *api.World) { w.Fleet.Tick-- })
	r := run(before, tickStep())
	wantResult(t, "the tick before", r, result{w: full})
	w := after(t, full, mintStep(1, 3, 5), bytesStep(1, []byte{0, 0}), stallStep(1, 2), tickStep())
	if len(w.Accounts[1].Ring) != 4 || w.Accounts[1].Ring[3].Expiry != api.MaxTick || !w.Fleet.Crews[1].Robots[2].Due || w.Fleet.Tick != api.MaxTick {
		t.Errorf("at MaxTick: %v, %v", w.Accounts[1], w.Fleet)
	}
	// At MaxTick each token is expired.
	r = run(full, bytesStep(2, append([]byte{5, 4, 3, 2, 1}, frameOf(api.Request{Kind: api.KindWatch, Token: tokenFor(aKey, 2, 3, api.MaxTick, 1)})...)))
	if replies := repliesOf(t, r.outs); replies[len(replies)-1].Code != api.ErrExpired || replies[0].Tick != api.MaxTick {
		t.Errorf("a request at MaxTick: %v", replies)
	}
}

// P10.2: bytes that arrive follow those that are pending; each frame is answered in order, and what is left is pending.
func TestReceive(t *testing.T) {
	c := exampleConfig()
	token := tokenFor(aKey, 0, api.RoleTrade, 100, 1)
	watch := frameOf(api.Request{Kind: api.KindWatch, Token: token})
	submit := frameOf(api.Request{Kind: api.KindSubmit, Token: token})
	w := after(t, newWorld(t, c), mintStep(0, api.RoleTrade, 100))
	seen := func(queued int) api.Out {
		return outOf(0, api.Reply{Kind: api.KindWatch, Robots: []api.Sight{{}}, Queued: queued})
	}
	accepted := outOf(0, api.Reply{Kind: api.KindSubmit, Order: 1})
	refused := func(e api.Errno) api.Out { return outOf(0, api.Reply{Code: e}) }
	for _, x := range []struct {
		pending, b, rest []byte
		outs             []api.Out
	}{
		{nil, nil, nil, nil},
		{[]byte{0, 9, 1}, nil, []byte{0, 9, 1}, nil},
		{nil, []byte{0}, []byte{0}, nil},
		{[]byte{0}, []byte{3}, []byte{0, 3}, nil},
		{[]byte{0}, []byte{3, 7, 0}, []byte{0}, []api.Out{refused(api.ErrForm)}},
		{[]byte{0}, []byte{1, 0, 2}, nil, []api.Out{refused(api.ErrShort), refused(api.ErrShort)}},
		{nil, watch, nil, []api.Out{seen(0)}},
		{nil, watch[:20], watch[:20], nil},
		{watch[:48], watch[48:], nil, []api.Out{seen(0)}},
		{watch[:1], slices.Concat(watch[1:], submit, watch, submit[:50]), submit[:50], []api.Out{seen(0), accepted, seen(1)}},
		{nil, slices.Concat([]byte{9, 9}, submit, []byte{0, 0}, watch), nil, []api.Out{refused(api.ErrShort), accepted, refused(api.ErrShort), seen(1)}},
		{nil, slices.Repeat(watch, 83), nil, slices.Repeat([]api.Out{seen(0)}, 83)},
		{watch[:20], append(watch[20:len(watch):len(watch)], slices.Repeat([]byte{0, 0}, 2033)...), nil, append([]api.Out{seen(0)}, slices.Repeat([]api.Out{refused(api.ErrShort)}, 2033)...)},
	} {
		w.Accounts[0].Pending = x.pending
		next, outs, e := gateway.Receive(w, 0, x.b)
		wantOuts(t, "Receive", outs, e, x.outs, api.OK)
		a := next.Accounts[0]
		if !bytes.Equal(a.Pending, x.rest) || a.Log.Count != uint32(len(x.outs)) || !equalAccounts(next.Accounts[1], w.Accounts[1]) {
			t.Errorf("Receive of %v after %v: %v, want that %v is left", x.b, x.pending, a, x.rest)
		}
	}
}

// P10.2: Receive returns ErrArg unless the tenant is present, and then ErrMany if there are too many bytes.
func TestReceiveErrors(t *testing.T) {
	many, most := make([]byte, 4097), make([]byte, 4096)
	for _, tenant := range append([]int{-2, -1, 3, 4, 255}, hugeNumbers...) {
		for _, b := range [][]byte{nil, {0, 1}, many} {
			wantResult(t, "Receive at no port", runOwn(busyWorld(), bytesStep(tenant, b)), result{e: api.ErrArg})
		}
	}
	wantResult(t, "Receive at an absent tenant's port", runOwn(gapWorld(), bytesStep(1, nil)), result{e: api.ErrArg})
	wantResult(t, "too many bytes at an absent tenant's port", runOwn(gapWorld(), bytesStep(1, many)), result{e: api.ErrArg})
	for tenant := range 3 {
		wantResult(t, "too many bytes", runOwn(busyWorld(), bytesStep(tenant, many)), result{e: api.ErrMany})
		wantResult(t, "very many bytes", runOwn(busyWorld(), bytesStep(tenant, make([]byte, 1<<16+2))), result{e: api.ErrMany})
		longest := append([]byte{0, 64}, make([]byte, 61)...)
		w := changed(busyWorld(), func(w *api.World) { w.Accounts[tenant].Pending = longest })
		r := runOwn(w, bytesStep(tenant, most))
		if r.e != api.OK || len(r.outs) != 2048 || len(r.w.Accounts[tenant].Pending) != 1 {
			t.Errorf("as many bytes as can be: %d outputs, %v, error %d", len(r.outs), r.w.Accounts[tenant].Pending, r.e)
		}
	}
}

// asked is a request, or another frame, at a port of a world; the reply, and what changes beside the log.
type asked struct {
	what   string
	w      api.World
	tenant int
	frame  []byte
	reply  api.Reply
	change func(w *api.World)
}

// check checks the reply, and all of the world after it.
func (x asked) check(t *testing.T) {
	t.Helper()
	x.reply.Tick = x.w.Fleet.Tick
	x.w.Accounts[x.tenant].Pending = nil
	wanted := changed(x.w, func(w *api.World) {
		l := &w.Accounts[x.tenant].Log
		*l, _ = wire.Append(*l, w.Fleet.Tick, x.reply.Kind, x.reply.Code, x.frame)
		if x.change != nil {
			x.change(w)
		}
	})
	wantResult(t, x.what, run(x.w, bytesStep(x.tenant, x.frame)), result{w: wanted, outs: []api.Out{outOf(x.tenant, x.reply)}})
}

// ownRequest returns the encoding of a request with the token by which its tenant may do all in the busy world.
func ownRequest(tenant int, q api.Request) []byte {
	q.Token = tokenFor(aKey, tenant, api.RoleOwn, api.MaxTick, 1)
	return frameOf(q)
}

// P10.2: requests that are carried out.
func TestRequests(t *testing.T) {
	w := busyWorld()
	r := w.Fleet.Crews[1].Robots
	sights := []api.Sight{{Place: r[0].Place, State: r[0].State, Order: r[0].Order}, {Place: r[1].Place, State: r[1].State, Order: r[1].Order}, {Place: r[2].Place, State: r[2].State, Order: r[2].Order}}
	queued := changed(w, func(w *api.World) {
		b := &w.Fleet.Crews[1].Book
		b.Orders = append(b.Orders, api.Order{Id: 4, State: api.OrderQueued}, api.Order{Id: 5, State: api.OrderQueued})
		b.Queue = []int{4, 5}
	})
	long := changed(w, func(w *api.World) { w.Accounts[1].Log = logOf(100, 32) })
	records := w.Accounts[1].Log.Records
	for _, x := range []asked{
		{"Submit", w, 1, ownRequest(1, api.Request{Kind: api.KindSubmit, Pick: 2, Drop: 1}), api.Reply{Order: 4}, func(w *api.World) {
			b := &w.Fleet.Crews[1].Book
			b.Orders = append(b.Orders, api.Order{Id: 4, Pick: 2, Drop: 1, State: api.OrderQueued, At: 15})
			b.Queue, b.Count = []int{4}, api.Count{Window: 3, Many: 1}
		}},
		{"Cancel", queued, 1, ownRequest(1, api.Request{Kind: api.KindCancel, Number: 4}), api.Reply{}, func(w *api.World) {
			b := &w.Fleet.Crews[1].Book
			b.Orders[3].State, b.Queue = api.OrderCancelled, []int{5}
		}},
		{"Query of an order that is cancelled", w, 1, ownRequest(1, api.Request{Kind: api.KindQuery, Number: 2}), api.Reply{State: api.OrderCancelled}, nil},
		{"Query of an order that is done", changed(w, func(w *api.World) {
			w.Fleet.Crews[1].Book.Orders[1].State, w.Fleet.Crews[1].Book.Orders[1].Done = api.OrderDone, 14
		}), 1, ownRequest(1, api.Request{Kind: api.KindQuery, Number: 2}), api.Reply{State: api.OrderDone, Done: 14}, nil},
		{"Query of an order that is queued", queued, 1, ownRequest(1, api.Request{Kind: api.KindQuery, Number: 5}), api.Reply{State: api.OrderQueued}, nil},
		{"Watch", w, 1, ownRequest(1, api.Request{Kind: api.KindWatch}), api.Reply{Robots: sights}, nil},
		{"Watch of a queue", queued, 1, ownRequest(1, api.Request{Kind: api.KindWatch}), api.Reply{Robots: sights, Queued: 2}, nil},
		{"Log", w, 1, ownRequest(1, api.Request{Kind: api.KindLog}), api.Reply{Count: 5, Records: records}, nil},
		{"Log from 3 on", w, 1, ownRequest(1, api.Request{Kind: api.KindLog, Number: 3}), api.Reply{Count: 5, Records: records[3:]}, nil},
		{"Log from its end on", w, 1, ownRequest(1, api.Request{Kind: api.KindLog, Number: 5}), api.Reply{Count: 5}, nil},
		{"Log from far beyond on", w, 1, ownRequest(1, api.Request{Kind: api.KindLog, Number: math.MaxUint32}), api.Reply{Count: 5}, nil},
		{"Log of a long log", long, 1, ownRequest(1, api.Request{Kind: api.KindLog}), api.Reply{Count: 100, Records: logOf(100, 32).Records}, nil},
		{"Log of a long log from 98 on", long, 1, ownRequest(1, api.Request{Kind: api.KindLog, Number: 98}), api.Reply{Count: 100, Records: logOf(100, 32).Records[30:]}, nil},
		{"Revoke", w, 1, ownRequest(1, api.Request{Kind: api.KindRevoke, Number: 3}), api.Reply{}, func(w *api.World) { w.Accounts[1].Ring[2].Revoked = true }},
		{"Revoke of the token itself", w, 1, ownRequest(1, api.Request{Kind: api.KindRevoke, Number: 1}), api.Reply{}, func(w *api.World) { w.Accounts[1].Ring[0].Revoked = true }},
	} {
		q, e := wire.DecodeRequest(x.frame)
		wantErrno(t, "DecodeRequest", e, api.OK)
		x.reply.Kind = q.Kind
		x.check(t)
	}
	seen := w.Fleet.Crews[2].Robots[0]
	asked{"Watch of another tenant", w, 2, ownRequest(2, api.Request{Kind: api.KindWatch}), api.Reply{Kind: api.KindWatch, Robots: []api.Sight{{Place: seen.Place, State: seen.State, Order: seen.Order}}}, nil}.check(t)
}

// P10.2: frames that are no requests, and requests that are not authorized, or not carried out: nothing changes but the log.
func TestRefusals(t *testing.T) {
	w := busyWorld()
	full := changed(w, func(w *api.World) {
		b := &w.Fleet.Crews[0].Book
		for id := len(b.Orders) + 1; id <= 64; id++ {
			b.Orders = append(b.Orders, api.Order{Id: id, State: api.OrderCancelled})
		}
	})
	watch := func(token api.Token) []byte { return frameOf(api.Request{Kind: api.KindWatch, Token: token}) }
	own := tokenFor(aKey, 0, api.RoleOwn, api.MaxTick, 1)
	spoilt := own
	spoilt.Tag[0] ^= 128
	for _, x := range []asked{
		{"a short frame", w, 0, []byte{0, 2}, api.Reply{Code: api.ErrShort}, nil},
		{"a length that is none", w, 0, []byte{0, 65}, api.Reply{Code: api.ErrShort}, nil},
		{"a frame of another form", w, 0, []byte{0, 3, 4}, api.Reply{Code: api.ErrForm}, nil},
		{"a frame of another kind", w, 0, append([]byte{0, 49, 7}, watch(own)[3:]...), api.Reply{Code: api.ErrForm}, nil},
		{"the longest frame", w, 0, append([]byte{0, 64}, make([]byte, 62)...), api.Reply{Code: api.ErrForm}, nil},
		{"a wrong tag", w, 0, watch(spoilt), api.Reply{Kind: api.KindWatch, Code: api.ErrTag}, nil},
		{"another key", w, 0, watch(tokenFor("x", 0, api.RoleOwn, api.MaxTick, 1)), api.Reply{Kind: api.KindWatch, Code: api.ErrTag}, nil},
		{"a token of another tenant", w, 1, ownRequest(0, api.Request{Kind: api.KindSubmit}), api.Reply{Kind: api.KindSubmit, Code: api.ErrTenant}, nil},
		{"a serial number that is none", w, 0, watch(tokenFor(aKey, 0, api.RoleOwn, api.MaxTick, 4)), api.Reply{Kind: api.KindWatch, Code: api.ErrSerial}, nil},
		{"a role that was not issued", w, 0, watch(tokenFor(aKey, 0, api.RoleOwn, 3, 3)), api.Reply{Kind: api.KindWatch, Code: api.ErrSerial}, nil},
		{"a revoked token", w, 0, watch(tokenFor(aKey, 0, api.RoleTrade, w.Accounts[0].Ring[1].Expiry, 2)), api.Reply{Kind: api.KindWatch, Code: api.ErrRevoked}, nil},
		{"an expired token", w, 0, watch(tokenFor(aKey, 0, api.RoleView, w.Accounts[0].Ring[2].Expiry, 3)), api.Reply{Kind: api.KindWatch, Code: api.ErrExpired}, nil},
		{"no pick", w, 0, ownRequest(0, api.Request{Kind: api.KindSubmit, Pick: 1}), api.Reply{Kind: api.KindSubmit, Code: api.ErrArg}, nil},
		{"no drop", w, 0, ownRequest(0, api.Request{Kind: api.KindSubmit, Drop: 255}), api.Reply{Kind: api.KindSubmit, Code: api.ErrArg}, nil},
		{"a full book", full, 0, ownRequest(0, api.Request{Kind: api.KindSubmit}), api.Reply{Kind: api.KindSubmit, Code: api.ErrMany}, nil},
		{"Cancel of no order", w, 0, ownRequest(0, api.Request{Kind: api.KindCancel}), api.Reply{Kind: api.KindCancel, Code: api.ErrNone}, nil},
		{"Cancel of an order of another tenant", w, 0, ownRequest(0, api.Request{Kind: api.KindCancel, Number: 3}), api.Reply{Kind: api.KindCancel, Code: api.ErrNone}, nil},
		{"Cancel of an order that is cancelled", w, 0, ownRequest(0, api.Request{Kind: api.KindCancel, Number: 2}), api.Reply{Kind: api.KindCancel, Code: api.ErrState}, nil},
		{"Query of no order", w, 0, ownRequest(0, api.Request{Kind: api.KindQuery, Number: 65535}), api.Reply{Kind: api.KindQuery, Code: api.ErrNone}, nil},
		{"Revoke of no token", w, 0, ownRequest(0, api.Request{Kind: api.KindRevoke, Number: 1 << 31}), api.Reply{Kind: api.KindRevoke, Code: api.ErrSerial}, nil},
		{"Revoke of a revoked token", w, 0, ownRequest(0, api.Request{Kind: api.KindRevoke, Number: 2}), api.Reply{Kind: api.KindRevoke, Code: api.ErrRevoked}, nil},
	} {
		x.check(t)
	}
	// The codes of a book come one after the other.
	fresh := after(t, newWorld(t, exampleConfig()), mintStep(1, api.RoleOwn, api.MaxTick))
	submit := ownRequest(1, api.Request{Kind: api.KindSubmit})
	fresh = after(t, fresh, bytesStep(1, submit), bytesStep(1, submit))
	asked{"a full queue", fresh, 1, submit, api.Reply{Kind: api.KindSubmit, Code: api.ErrFull}, nil}.check(t)
	fresh = after(t, fresh, bytesStep(1, ownRequest(1, api.Request{Kind: api.KindCancel, Number: 1})))
	asked{"a quota that is used up", fresh, 1, submit, api.Reply{Kind: api.KindSubmit, Code: api.ErrQuota}, nil}.check(t)
}

// P10.2: what roles permit, and a token's last tick.
func TestRolesAndLives(t *testing.T) {
	c := exampleConfig()
	c.Start = 50
	w := after(t, newWorld(t, c), mintStep(0, api.RoleView, 5), mintStep(0, api.RoleTrade, 5), mintStep(0, api.RoleOwn, 5))
	permitted := map[uint8][]uint8{1: {3, 4, 5}, 2: {1, 2, 3, 4, 5}, 3: {1, 2, 3, 4, 5, 6}}
	for role := api.RoleView; role <= api.RoleOwn; role++ {
		for kind := api.KindSubmit; kind <= api.KindRevoke; kind++ {
			q := api.Request{Kind: kind, Token: tokenFor(aKey, 0, role, 55, uint32(role))}
			code := replyOf(t, run(w, bytesStep(0, frameOf(q))).outs[0]).Code
			if (code == api.ErrRole) == slices.Contains(permitted[role], kind) {
				t.Errorf("the role %d, the kind %d: code %d", role, kind, code)
			}
			last := after(t, w, ticks(4)...)
			if now := replyOf(t, run(last, bytesStep(0, frameOf(q))).outs[0]).Code; now != code {
				t.Errorf("the role %d, the kind %d: code %d, and %d in the last tick", role, kind, code, now)
			}
			if late := replyOf(t, run(after(t, last, tickStep()), bytesStep(0, frameOf(q))).outs[0]).Code; late != api.ErrExpired {
				t.Errorf("the role %d, the kind %d: code %d after the last tick", role, kind, late)
			}
		}
	}
}

// P10.2: a log of 2^32 - 1 records is full: no frame is looked at, nor noted.
func TestFullLog(t *testing.T) {
	w := changed(busyWorld(), func(w *api.World) {
		w.Accounts[1].Log, w.Accounts[1].Pending = logOf(math.MaxUint32, 32), nil
	})
	refused := outOf(1, api.Reply{Code: api.ErrFull, Tick: 15})
	for kind := api.KindSubmit; kind <= api.KindRevoke; kind++ {
		frame := ownRequest(1, api.Request{Kind: kind})
		wantResult(t, "a request", run(w, bytesStep(1, frame)), result{w: w, outs: []api.Out{refused}})
	}
	r := run(w, bytesStep(1, []byte{0, 1, 0, 3, 9, 0, 4}))
	wantResult(t, "other frames", r, result{w: changed(w, func(w *api.World) { w.Accounts[1].Pending = []byte{0, 4} }), outs: []api.Out{refused, refused}})
	if r := run(w, bytesStep(0, slices.Concat(make([]byte, 9), ownRequest(0, api.Request{Kind: api.KindWatch})))); len(r.outs) == 0 || replyOf(t, r.outs[0]).Code == api.ErrFull {
		t.Errorf("a frame of another tenant: %v", r.outs)
	}
	// The last record can be added.
	almost := changed(w, func(w *api.World) { w.Accounts[1].Log.Count-- })
	watch := ownRequest(1, api.Request{Kind: api.KindWatch})
	r = run(almost, bytesStep(1, slices.Concat(watch, watch)))
	replies := repliesOf(t, r.outs)
	if len(replies) != 2 || replies[0].Kind != api.KindWatch || replies[0].Code != api.OK || replies[1].Code != api.ErrFull || r.w.Accounts[1].Log.Count != math.MaxUint32 {
		t.Errorf("the last record: %v", replies)
	}
}

// P10.2: Stall asks a robot to stall, and returns traffic.Stall's error.
func TestStall(t *testing.T) {
	w := busyWorld()
	for tenant, robots := range []int{1, 3, 1} {
		for n := range robots {
			next, e := gateway.Stall(w, tenant, n)
			wanted := changed(w, func(w *api.World) { w.Fleet.Crews[tenant].Robots[n].Due = true })
			wantResult(t, "Stall", result{w: next, e: e}, result{w: wanted})
		}
		for _, n := range append([]int{-1, robots, 3, 4}, hugeNumbers...) {
			wantResult(t, "Stall of no robot", runOwn(w, stallStep(tenant, n)), result{e: api.ErrArg})
		}
	}
	for _, tenant := range append([]int{-2, -1, 3, 4, 255}, hugeNumbers...) {
		wantResult(t, "Stall of no tenant", runOwn(w, stallStep(tenant, 0)), result{e: api.ErrArg})
	}
	wantResult(t, "Stall of an absent tenant", runOwn(gapWorld(), stallStep(1, 0)), result{e: api.ErrArg})
	held := after(t, w, stallStep(1, 2), tickStep())
	wantResult(t, "Stall of a robot that is held", runOwn(held, stallStep(1, 2)), result{w: held})
}

// P10.2: Mint issues a token at the present tick.
func TestMint(t *testing.T) {
	w := busyWorld()
	for tenant := range 3 {
		for role := api.RoleView; role <= api.RoleOwn; role++ {
			for life, expiry := range map[uint64]uint64{1: 16, 100: 115, api.MaxTick - 16: api.MaxTick - 1, api.MaxTick - 15: api.MaxTick, api.MaxTick: api.MaxTick} {
				wanted := changed(w, func(w *api.World) {
					w.Accounts[tenant].Ring = append(w.Accounts[tenant].Ring, api.Minted{Role: role, Expiry: expiry})
				})
				token := tokenFor(aKey, tenant, role, expiry, 4)
				wantResult(t, "Mint", runOwn(w, mintStep(tenant, role, life)), result{w: wanted, outs: []api.Out{outOf(tenant, api.Reply{Kind: api.KindToken, Tick: 15, Token: token})}})
			}
		}
	}
}

// P10.2: Mint returns ErrArg unless the tenant is present, and auth.Issue's error; that the ring is full is an output.
func TestMintErrors(t *testing.T) {
	full := changed(busyWorld(), func(w *api.World) { w.Accounts[1].Ring = fullRing(32) })
	for _, w := range []api.World{busyWorld(), full} {
		for _, tenant := range append([]int{-2, -1, 3, 4, 255}, hugeNumbers...) {
			wantResult(t, "Mint for no tenant", runOwn(w, mintStep(tenant, 1, 1)), result{e: api.ErrArg})
		}
		for _, role := range []uint8{0, 4, 5, 254, 255} {
			wantResult(t, "Mint of no role", runOwn(w, mintStep(1, role, 1)), result{e: api.ErrArg})
		}
		for _, life := range append([]uint64{0}, lateTicks...) {
			wantResult(t, "Mint for no life", runOwn(w, mintStep(1, 1, life)), result{e: api.ErrArg})
		}
	}
	wantResult(t, "Mint for an absent tenant", runOwn(gapWorld(), mintStep(1, 1, 1)), result{e: api.ErrArg})
	refused := api.Out{Tenant: 1, Tick: 15, Bytes: []byte{0, 13, 18, 0, 9, 0, 0, 0, 0, 0, 0, 0, 15}}
	wantResult(t, "Mint into a full ring", runOwn(full, mintStep(1, 1, 1)), result{w: full, outs: []api.Out{refused}})
	last := changed(full, func(w *api.World) { w.Accounts[1].Ring = fullRing(31) })
	r := runOwn(last, mintStep(1, 2, 1))
	if r.e != api.OK || len(r.w.Accounts[1].Ring) != 32 || replyOf(t, r.outs[0]).Token.Serial != 32 {
		t.Errorf("Mint of the last token: %v", r)
	}
}

// P10.2: Step returns ErrArg for any other kind, and does not look at fields that its kind does not name.
func TestStep(t *testing.T) {
	for kind := range 256 {
		s := api.Step{Kind: uint8(kind), Role: 1, Life: 1}
		if isKind := kind >= 1 && kind <= 4; (run(busyWorld(), s).e == api.OK) != isKind {
			t.Errorf("a step of the kind %d: error %d", kind, run(busyWorld(), s).e)
		}
		if kind < 1 || kind > 4 {
			wantResult(t, "a step of no kind", run(busyWorld(), s), result{e: api.ErrArg})
		}
	}
	w := busyWorld()
	for _, n := range append([]int{-1, 3}, hugeNumbers...) {
		many := make([]byte, 5000)
		for _, x := range []struct{ plain, full api.Step }{
			{tickStep(), api.Step{Kind: 1, Tenant: n, Robot: n, Role: uint8(n), Life: uint64(n), Bytes: many}},
			{bytesStep(1, []byte{1, 2}), api.Step{Kind: 2, Tenant: 1, Robot: n, Role: uint8(n), Life: uint64(n), Bytes: []byte{1, 2}}},
			{stallStep(1, 2), api.Step{Kind: 3, Tenant: 1, Robot: 2, Role: uint8(n), Life: uint64(n), Bytes: many}},
			{mintStep(1, 2, 3), api.Step{Kind: 4, Tenant: 1, Robot: n, Role: 2, Life: 3, Bytes: many}},
		} {
			r := run(w, x.full)
			wantResult(t, "a step with other fields", r, run(w, x.plain))
			wantErrno(t, "a step with other fields", r.e, api.OK)
		}
	}
}

package gateway_test

import (
	"bytes"
	"crypto/sha256"
	"encoding/binary"
	"slices"
	"testing"

	"dunnage/api"
	"dunnage/config"
	"dunnage/crew"
	"dunnage/gateway"
	"dunnage/route"
	"dunnage/traffic"
	"dunnage/wire"
)

// P10.7: everything that a step returns is valid.
func TestWorldsStayValid(t *testing.T) {
	t.Parallel()
	eachMoment(func(m moment) {
		if m.after.e == api.OK {
			wantErrno(t, "Check", gateway.Check(m.after.w), api.OK)
			wantErrno(t, "the definition of a valid world", specCheck(m.after.w), api.OK)
		}
		for _, o := range m.after.outs {
			replyOf(t, o)
			if o.Tick != m.after.w.Fleet.Tick || !specIsPresent(m.before.Config, o.Tenant) {
				t.Errorf("the output %v at the tick %d", o, m.after.w.Fleet.Tick)
			}
		}
	})
	for _, v := range goodVariants() {
		for _, s := range []api.Step{tickStep(), bytesStep(2, ownRequest(2, api.Request{Kind: api.KindSubmit})), mintStep(2, 2, 2), stallStep(2, 0)} {
			if r := run(v.w, s); r.e == api.OK {
				wantErrno(t, "Check after a step of "+v.what, gateway.Check(r.w), api.OK)
			}
		}
	}
}

// ownOuts returns the outputs of a script at the port of a tenant.
func ownOuts(t *testing.T, c api.Config, l []api.Step, tenant int) []api.Out {
	t.Helper()
	outs, e := gateway.Run(encoded(c), []byte(aKey), l)
	wantErrno(t, "Run", e, api.OK)
	return gateway.Port(outs, tenant)
}

// P10.7, N6: the outputs at a port are those of the script's projection to its tenant, and those of the config's projection as well.
func TestIsolation(t *testing.T) {
	t.Parallel()
	compared := 0
	for _, h := range longHistories() {
		for tenant := range h.c.Teams {
			if !specIsPresent(h.c, tenant) {
				continue
			}
			own := gateway.Port(h.outs(), tenant)
			compared += len(own)
			part := gateway.Project(h.script(), tenant)
			wantOuts(t, "the script's projection", ownOuts(t, h.c, part, tenant), api.OK, own, api.OK)
			only, e := config.Only(h.c, tenant)
			wantErrno(t, "Only", e, api.OK)
			outs, e := gateway.Run(encoded(only), []byte(aKey), part)
			wantOuts(t, "the projections of the config and of the script", outs, e, own, api.OK)
		}
	}
	if compared < 4000 {
		t.Errorf("%d outputs were compared", compared)
	}
}

// woven returns a script with the steps of one script that belong to its projection to a tenant, and, in between, steps of the others out of another script.
func woven(draw func(limit int) int, l, others []api.Step, tenant int) []api.Step {
	own := gateway.Project(l, tenant)
	var all []api.Step
	for len(own) > 0 || len(others) > 0 {
		if len(others) > 0 && (len(own) == 0 || draw(2) == 0) {
			if s := others[0]; s.Kind != api.StepTick && s.Tenant != tenant {
				all = append(all, s)
			}
			others = others[1:]
			continue
		}
		all, own = append(all, own[0]), own[1:]
	}
	return all
}

// P10.7, N6: the outputs at a port are the same for any two scripts with the same projection, whatever the others send, mint and stall.
func TestOthersDoNotMatter(t *testing.T) {
	t.Parallel()
	compared := 0
	for i, h := range longHistories() {
		other := longHistories()[i/3*3+(i+1)%3].script()
		for tenant := range h.c.Teams {
			if !specIsPresent(h.c, tenant) {
				continue
			}
			l := woven(drawer(i), h.script(), other, tenant)
			if !equalSteps(gateway.Project(l, tenant), gateway.Project(h.script(), tenant)) {
				t.Fatal("the projections are different")
			}
			own := gateway.Port(h.outs(), tenant)
			compared += len(own)
			wantOuts(t, "another script with the same projection", ownOuts(t, h.c, l, tenant), api.OK, own, api.OK)
		}
	}
	if compared < 4000 {
		t.Errorf("%d outputs were compared", compared)
	}
}

// cutAgain returns a script in which the bytes that arrive are cut into other portions.
func cutAgain(draw func(limit int) int, l []api.Step) []api.Step {
	var all []api.Step
	for _, s := range l {
		if s.Kind != api.StepBytes {
			all = append(all, s)
			continue
		}
		if n := len(all) - 1; n >= 0 && all[n].Kind == api.StepBytes && all[n].Tenant == s.Tenant && len(all[n].Bytes)+len(s.Bytes) <= api.MaxBytes {
			s.Bytes = slices.Concat(all[n].Bytes, s.Bytes)
			all = all[:n]
		}
		for len(s.Bytes) > 0 && draw(3) > 0 {
			n := draw(len(s.Bytes) + 1)
			all = append(all, bytesStep(s.Tenant, s.Bytes[:n]))
			s.Bytes = s.Bytes[n:]
		}
		all = append(all, s)
	}
	return all
}

// P10.7: cutting the bytes that arrive at a port between two ticks in other places changes no output.
func TestCuts(t *testing.T) {
	t.Parallel()
	for i, h := range longHistories() {
		l := slices.DeleteFunc(h.script(), func(s api.Step) bool { return len(s.Bytes) > api.MaxBytes })
		for seed := range 3 {
			outs, e := gateway.Run(encoded(h.c), []byte(aKey), cutAgain(drawer(i*3+seed), l))
			wantOuts(t, "a script that is cut in other places", outs, e, h.outs(), api.OK)
		}
		// All bytes that arrive at one port between two ticks, at once.
		var joined []api.Step
		tenant := i % len(h.c.Teams)
		first := -1
		for _, s := range gateway.Project(l, tenant) {
			switch {
			case s.Kind == api.StepBytes && first >= 0 && len(joined[first].Bytes)+len(s.Bytes) <= api.MaxBytes:
				joined[first].Bytes = append(joined[first].Bytes, s.Bytes...)
				continue
			case s.Kind == api.StepBytes:
				first = len(joined)
			case s.Kind != api.StepStall:
				first = -1
			}
			joined = append(joined, s)
		}
		wantOuts(t, "all bytes between two ticks", ownOuts(t, h.c, joined, tenant), api.OK, gateway.Port(h.outs(), tenant), api.OK)
	}
}

// P10.7: the frames of a request, byte by byte, with other ports in between.
func TestByteByByte(t *testing.T) {
	w := after(t, newWorld(t, exampleConfig()), mintStep(0, 2, 9), mintStep(1, 2, 9))
	frames := [2][]byte{}
	for tenant := range 2 {
		frames[tenant] = frameOf(api.Request{Kind: api.KindSubmit, Token: tokenFor(aKey, tenant, 2, 9, 1)})
	}
	var outs []api.Out
	for i := range frames[0] {
		for tenant := range 2 {
			r := run(w, bytesStep(tenant, frames[tenant][i:i+1]))
			wantErrno(t, "a byte", r.e, api.OK)
			w, outs = r.w, append(outs, r.outs...)
		}
	}
	accepted := api.Reply{Kind: api.KindSubmit, Order: 1}
	wantOuts(t, "two requests byte by byte", outs, api.OK, []api.Out{outOf(0, accepted), outOf(1, accepted)}, api.OK)
}

// answered is a frame that was answered at a port, with the tick and the reply.
type answered struct {
	tenant int
	frame  []byte
	reply  api.Reply
}

// answeredIn returns the frames that were answered in a moment.
func answeredIn(t *testing.T, m moment) []answered {
	t.Helper()
	if m.s.Kind != api.StepBytes || m.after.e != api.OK {
		return nil
	}
	frames, _, e := wire.Split(slices.Concat(m.before.Accounts[m.s.Tenant].Pending, m.s.Bytes))
	wantErrno(t, "Split", e, api.OK)
	if len(frames) != len(m.after.outs) {
		t.Fatalf("%d frames have %d replies", len(frames), len(m.after.outs))
	}
	var all []answered
	for i, frame := range frames {
		all = append(all, answered{m.s.Tenant, frame, replyOf(t, m.after.outs[i])})
	}
	return all
}

// grants are the tokens that were issued for a port, and those of them that were revoked.
type grants struct {
	issued  []api.Token
	revoked map[uint32]bool
}

// permits reports whether a request may be answered with the code 0.
func (x grants) permits(q api.Request, tick uint64) bool {
	kinds := [][]uint8{{}, {3, 4, 5}, {1, 2, 3, 4, 5}, {1, 2, 3, 4, 5, 6}}
	return slices.Contains(x.issued, q.Token) && !x.revoked[q.Token.Serial] && tick < q.Token.Expiry && slices.Contains(kinds[q.Token.Role], q.Kind)
}

// P10.7, N6: a request is answered with the code 0 only with a token that was issued for this port, is live, and permits it; a live token that permits it is never refused as one.
func TestAuthorization(t *testing.T) {
	t.Parallel()
	accepted, refused := 0, 0
	for _, h := range longHistories() {
		ports := map[int]*grants{}
		for tenant := range h.c.Teams {
			ports[tenant] = &grants{revoked: map[uint32]bool{}}
		}
		for _, m := range h.moments {
			for _, x := range answeredIn(t, m) {
				port := ports[x.tenant]
				q, e := wire.DecodeRequest(x.frame)
				if e != api.OK {
					if x.reply.Kind != api.KindNone || x.reply.Code != e {
						t.Errorf("the frame %v is answered with %v", x.frame, x.reply)
					}
					continue
				}
				is := port.permits(q, x.reply.Tick)
				if x.reply.Kind != q.Kind || x.reply.Code == api.OK && !is || is && x.reply.Code >= api.ErrTag && x.reply.Code <= api.ErrRole && q.Kind != api.KindRevoke {
					t.Errorf("the request %v is answered with %v", q, x.reply)
				}
				if is {
					accepted++
				} else {
					refused++
				}
				if q.Kind == api.KindRevoke && x.reply.Code == api.OK {
					port.revoked[q.Number] = true
				}
			}
			for _, o := range m.after.outs {
				if r := replyOf(t, o); r.Kind == api.KindToken && r.Code == api.OK {
					ports[o.Tenant].issued = append(ports[o.Tenant].issued, r.Token)
				}
			}
		}
	}
	if accepted < 1500 || refused < 1500 {
		t.Errorf("%d requests are permitted, %d are not", accepted, refused)
	}
}

// P10.7: a request that is answered with another code than 0 leaves the fleet and the ring as they are; no request changes what another tenant has.
func TestRefusalsChangeNothing(t *testing.T) {
	t.Parallel()
	refused := 0
	eachMoment(func(m moment) {
		replies := answeredIn(t, m)
		if len(replies) == 0 {
			return
		}
		for tenant, a := range m.after.w.Accounts {
			if tenant != m.s.Tenant && (!equalAccounts(a, m.before.Accounts[tenant]) || !equalCrews(m.after.w.Fleet.Crews[tenant], m.before.Fleet.Crews[tenant])) {
				t.Errorf("a request of another tenant changed %v", a)
			}
		}
		if slices.ContainsFunc(replies, func(x answered) bool { return x.reply.Code == api.OK }) {
			return
		}
		refused++
		if !equalFleets(m.after.w.Fleet, m.before.Fleet) || !slices.Equal(m.after.w.Accounts[m.s.Tenant].Ring, m.before.Accounts[m.s.Tenant].Ring) {
			t.Errorf("requests that were refused changed %v to %v", m.before, m.after.w)
		}
	})
	if refused < 500 {
		t.Errorf("%d times all requests were refused", refused)
	}
}

// accepted is an order that was accepted: when, and how many ticks its crew had been stalled before.
type accepted struct {
	tick    uint64
	stalled uint64
}

// ledger follows the orders of one tenant by what its port receives, and counts the ticks in which its crew is stalled.
type ledger struct {
	open    map[int]accepted
	stalled uint64
	bound   uint64
	done    int
}

// note notes what a moment does to a tenant's orders.
func (x *ledger) note(t *testing.T, m moment, tenant int) {
	t.Helper()
	for _, a := range answeredIn(t, m) {
		if a.tenant != tenant || a.reply.Code != api.OK {
			continue
		}
		q, _ := wire.DecodeRequest(a.frame)
		switch q.Kind {
		case api.KindSubmit:
			x.open[a.reply.Order] = accepted{a.reply.Tick, x.stalled}
		case api.KindCancel:
			delete(x.open, int(q.Number))
		}
	}
	if m.s.Kind != api.StepTick || m.after.e != api.OK || m.before.Fleet.Tick == api.MaxTick {
		return
	}
	is, e := crew.Stalled(m.before.Config, tenant, m.before.Fleet.Crews[tenant], m.before.Fleet.Tick)
	wantErrno(t, "Stalled", e, api.OK)
	if is {
		x.stalled++
	}
	for _, o := range gateway.Port(m.after.outs, tenant) {
		r := replyOf(t, o)
		a, isOpen := x.open[r.Order]
		if r.Kind != api.KindDone || !isOpen || r.Tick-a.tick > x.bound+x.stalled-a.stalled {
			t.Errorf("the reply %v to the order %v, with the bound %d", r, a, x.bound)
		}
		delete(x.open, r.Order)
		x.done++
	}
}

// P10.7, N6, N4: each order that is accepted, and not cancelled, is reported as done, once, within the bound and the ticks of stalls.
func TestCompletion(t *testing.T) {
	t.Parallel()
	done := 0
	for i, h := range longHistories() {
		if i%3 == 2 {
			// The last tick comes too early.
			continue
		}
		for tenant := range h.c.Teams {
			if !specIsPresent(h.c, tenant) {
				continue
			}
			bound, e := route.Bound(h.c, tenant)
			wantErrno(t, "Bound", e, api.OK)
			x := &ledger{open: map[int]accepted{}, bound: uint64(bound)}
			w := newWorld(t, h.c)
			for _, m := range h.moments {
				x.note(t, m, tenant)
				if m.after.e == api.OK {
					w = m.after.w
				}
			}
			for range 2*bound + 100 {
				if len(x.open) == 0 {
					break
				}
				m := moment{w, tickStep(), run(w, tickStep())}
				x.note(t, m, tenant)
				w = m.after.w
			}
			if len(x.open) > 0 {
				t.Errorf("the orders %v of tenant %d are never done", x.open, tenant)
			}
			done += x.done
		}
	}
	if done < 150 {
		t.Errorf("%d orders were done", done)
	}
}

// linkAfter returns the link of a record after a previous one.
func linkAfter(prev [32]byte, r api.Reply, frame []byte) [32]byte {
	b := binary.BigEndian.AppendUint64(bytes.Clone(prev[:]), r.Tick)
	b = append(b, r.Kind, byte(r.Code>>8), byte(r.Code))
	sum := sha256.Sum256(frame)
	return sha256.Sum256(append(b, sum[:]...))
}

// P10.7: the log of a tenant has one record for each of its frames, and its links can be computed from the frames and the replies.
func TestLogs(t *testing.T) {
	t.Parallel()
	longest := uint32(0)
	for _, h := range longHistories() {
		logs := make([]api.Log, len(h.c.Teams))
		for _, m := range h.moments {
			for _, x := range answeredIn(t, m) {
				l := &logs[x.tenant]
				l.Link = linkAfter(l.Link, x.reply, x.frame)
				l.Count++
				l.Records = append(l.Records, api.Record{Tick: x.reply.Tick, Kind: x.reply.Kind, Code: x.reply.Code, Link: l.Link})
			}
			if m.after.e != api.OK {
				continue
			}
			for tenant, a := range m.after.w.Accounts {
				wanted := logs[tenant]
				longest = max(longest, wanted.Count)
				wanted.Records = wanted.Records[max(0, len(wanted.Records)-32):]
				if !equalLogs(a.Log, wanted) {
					t.Fatalf("the log of tenant %d: %v, want %v", tenant, a.Log, wanted)
				}
			}
		}
	}
	if longest < 100 {
		t.Errorf("the longest log has %d records", longest)
	}
}

// N5: whatever is sent, minted and stalled, Judge finds no breach.
func TestNoBreaches(t *testing.T) {
	t.Parallel()
	eachMoment(func(m moment) {
		if m.s.Kind != api.StepTick || m.before.Fleet.Tick == api.MaxTick {
			return
		}
		before, e := traffic.Positions(m.before.Config, m.before.Fleet)
		wantErrno(t, "Positions", e, api.OK)
		next, e := traffic.Positions(m.before.Config, m.after.w.Fleet)
		wantErrno(t, "Positions", e, api.OK)
		breaches, e := traffic.Judge(m.before.Config, before, next, m.before.Fleet.Tick)
		if len(breaches) > 0 || e != api.OK {
			t.Errorf("breaches: %v, error %d", breaches, e)
		}
	})
}

package gateway_test

import (
	"bytes"
	"slices"
	"sync"
	"testing"

	"dunnage/api"
	"dunnage/auth"
	"dunnage/gateway"
	"dunnage/wire"
)

// moment is a step of a history: the world before it, and what it returned.
type moment struct {
	before api.World
	s      api.Step
	after  result
}

// history is a drawn script for a config, and all that its steps returned, from a new world on.
type history struct {
	c       api.Config
	moments []moment
}

// script returns the steps of a history.
func (x history) script() []api.Step {
	var l []api.Step
	for _, m := range x.moments {
		l = append(l, m.s)
	}
	return l
}

// outs returns the outputs of a history.
func (x history) outs() []api.Out {
	var l []api.Out
	for _, m := range x.moments {
		l = append(l, m.after.outs...)
	}
	return l
}

// traders draw what happens at the ports: they know the tokens that were issued for each tenant, and have the bytes that still have to be sent to each port.
type traders struct {
	draw    func(limit int) int
	tokens  [][]api.Token
	streams [][]byte
}

// learn notes the tokens in outputs.
func (x *traders) learn(outs []api.Out) {
	for _, o := range outs {
		if r, e := wire.DecodeReply(o.Bytes); e == api.OK && r.Kind == api.KindToken && r.Code == api.OK {
			x.tokens[o.Tenant] = append(x.tokens[o.Tenant], r.Token)
		}
	}
}

// step draws a step for a world.
func (x *traders) step(w api.World) api.Step {
	t := x.draw(len(w.Accounts))
	switch n := x.draw(20); {
	case n < 7:
		return tickStep()
	case n == 7 || len(x.tokens[t]) == 0 && n > 14:
		return mintStep(t, oneOf(x.draw, []uint8{1, 2, 2, 3, 3}), oneOf(x.draw, []uint64{4, 30, 1000, 1000, 1 << 61, api.MaxTick}))
	case n == 8 || n == 9:
		return stallStep(t, x.draw(len(w.Config.Teams[t].Homes)+1))
	case n == 10:
		return oneOf(x.draw, []api.Step{{}, {Kind: 5}, bytesStep(3, []byte{0, 1}), stallStep(-1, 0), stallStep(t, 3), mintStep(t, 0, 9), mintStep(t, 4, 9), mintStep(t, 2, 0), mintStep(3, 2, 9), bytesStep(t, make([]byte, 4097))})
	}
	for range x.draw(5) {
		x.streams[t] = append(x.streams[t], x.frame(w, t)...)
	}
	many := len(x.streams[t])
	if x.draw(3) == 0 {
		many = x.draw(many + 1)
	}
	sent := bytes.Clone(x.streams[t][:many])
	x.streams[t] = x.streams[t][many:]
	return bytesStep(t, sent)
}

// frame draws a frame, or other bytes that are sent to a port.
func (x *traders) frame(w api.World, t int) []byte {
	q := api.Request{Kind: oneOf(x.draw, []uint8{1, 1, 1, 1, 1, 1, 2, 2, 3, 3, 4, 4, 5, 5, 6}), Token: x.token(t)}
	switch q.Kind {
	case api.KindSubmit:
		m := w.Config.Teams[t]
		q.Pick, q.Drop = uint8(x.draw(max(len(m.Picks), 1)+x.draw(4)/3)), uint8(x.draw(max(len(m.Drops), 1)))
	case api.KindCancel, api.KindQuery:
		book := w.Fleet.Crews[t].Book
		q.Number = uint32(x.draw(len(book.Orders) + 2))
		if len(book.Queue) > 0 && x.draw(2) == 0 {
			q.Number = uint32(oneOf(x.draw, book.Queue))
		}
	case api.KindLog:
		q.Number = uint32(x.draw(int(w.Accounts[t].Log.Count) + 3))
	case api.KindRevoke:
		q.Number = uint32(x.draw(len(w.Accounts[t].Ring) + 2))
	}
	b := frameOf(q)
	switch x.draw(20) {
	case 0:
		b = oneOf(x.draw, [][]byte{{0, 0}, {0, 1}, {255, 255}, {0, 65}, {0, 2}, {0, 3, 1}, {0, 4, 4, 4}, {7}})
	case 1:
		b[x.draw(len(b))] ^= byte(1 << x.draw(8))
	}
	return b
}

// token draws a token for a request at a port, mostly one that was issued for it.
func (x *traders) token(t int) api.Token {
	own := x.tokens[t]
	if x.draw(9) == 0 {
		own = oneOf(x.draw, x.tokens)
	}
	if len(own) == 0 {
		return tokenFor(aKey, t, api.RoleOwn, api.MaxTick, 1)
	}
	token := own[len(own)-1]
	if x.draw(3) == 0 {
		token = oneOf(x.draw, own)
	}
	switch x.draw(25) {
	case 0:
		token.Tag[x.draw(32)] ^= 1
	case 1:
		token.Expiry++
	case 2:
		token, _ = auth.Sign([]byte("another key"), token)
	case 3:
		// Whoever knows the key can sign what was never issued.
		token = tokenFor(aKey, t, api.RoleOwn, token.Expiry+1, token.Serial)
	}
	return token
}

// historyOf draws a history from a world on.
func historyOf(w api.World, seed, many int) history {
	h := history{c: w.Config}
	x := &traders{drawer(seed), make([][]api.Token, len(w.Accounts)), make([][]byte, len(w.Accounts))}
	for range many {
		s := x.step(w)
		m := moment{w, s, run(w, s)}
		h.moments = append(h.moments, m)
		x.learn(m.after.outs)
		if m.after.e == api.OK {
			w = m.after.w
		}
	}
	return h
}

// longHistories returns histories of all sound configs, from their Start on, from a late tick on, and up to the last one.
var longHistories = sync.OnceValue(func() []history {
	var all []history
	for i, c := range soundConfigs() {
		for j, first := range []uint64{c.Start, 1<<50 + 3, api.MaxTick - 60} {
			c.Start = first
			w, _ := gateway.New(encoded(c), []byte(aKey))
			all = append(all, historyOf(w, i*3+j, 240))
		}
	}
	return all
})

// eachMoment calls a function with all moments of long histories.
func eachMoment(do func(m moment)) {
	for _, h := range longHistories() {
		for _, m := range h.moments {
			do(m)
		}
	}
}

// The histories of these tests have steps, requests and codes of all kinds.
func TestHistories(t *testing.T) {
	steps, errors := map[uint8]int{}, map[api.Errno]int{}
	replies, codes := map[uint8]int{}, map[api.Errno]int{}
	eachMoment(func(m moment) {
		errors[m.after.e]++
		if m.after.e == api.OK {
			steps[m.s.Kind]++
		}
		for _, r := range repliesOf(t, m.after.outs) {
			codes[r.Code]++
			if r.Code == api.OK {
				replies[r.Kind]++
			}
		}
	})
	for kind := api.StepTick; kind <= api.StepMint; kind++ {
		if steps[kind] < 200 {
			t.Errorf("%d steps of the kind %d", steps[kind], kind)
		}
	}
	for _, kind := range []uint8{1, 2, 3, 4, 5, 6, 16, 18} {
		if replies[kind] < 20 {
			t.Errorf("%d replies of the kind %d", replies[kind], kind)
		}
	}
	wanted := []api.Errno{api.ErrArg, api.ErrNone, api.ErrFull, api.ErrForm, api.ErrShort, api.ErrState, api.ErrQuota, api.ErrTag, api.ErrTenant, api.ErrSerial, api.ErrRevoked, api.ErrExpired, api.ErrRole, api.ErrHalted}
	for _, e := range wanted {
		if codes[e] < 5 {
			t.Errorf("%d replies with the code %d", codes[e], e)
		}
	}
	if errors[api.ErrArg] < 100 || errors[api.ErrMany] < 5 {
		t.Errorf("the errors of steps: %v", errors)
	}
	if !slices.ContainsFunc(longHistories(), func(h history) bool { return len(h.c.Teams) == 3 && len(h.outs()) > 100 }) {
		t.Error("no history of three teams has many outputs")
	}
}

package gateway

import (
	"slices"

	"dunnage/api"
	"dunnage/auth"
	"dunnage/config"
	"dunnage/traffic"
	"dunnage/wire"
)

// gate is the working form of a valid world, with its present tenants, and the outputs of the steps that it has done.
type gate struct {
	api.World
	tenants []int
	outs    []api.Out
}

// gateOf returns the working form of a world, in memory of its own: Check's error.
func gateOf(w api.World) (*gate, api.Errno) {
	tenants, e := config.Tenants(w.Config)
	if e != api.OK {
		return nil, e
	}
	g := &gate{World: w, tenants: tenants}
	if !g.isValid() {
		return nil, api.ErrBad
	}
	g.World = copyWorld(w)
	return g, api.OK
}

// isPresent reports whether a number, of any size, is one of a present tenant.
func (g *gate) isPresent(t int) bool { return slices.Contains(g.tenants, t) }

// do does a step; one with an error changes nothing, and has no output.
func (g *gate) do(s api.Step) api.Errno {
	kinds := map[uint8]func(s api.Step) api.Errno{
		api.StepTick:  g.tick,
		api.StepBytes: g.receive,
		api.StepStall: g.stall,
		api.StepMint:  g.mint,
	}
	do, is := kinds[s.Kind]
	if !is {
		return api.ErrArg
	}
	return do(s)
}

// tick does a StepTick.
func (g *gate) tick(api.Step) api.Errno {
	if g.Fleet.Tick == api.MaxTick {
		for _, t := range g.tenants {
			g.put(t, api.Reply{Kind: api.KindHalted, Code: api.ErrHalted})
		}
		return api.OK
	}
	f, done, e := traffic.Step(g.Config, g.Fleet)
	if e != api.OK {
		return e
	}
	g.Fleet = f
	for _, x := range done {
		g.put(x.Tenant, api.Reply{Kind: api.KindDone, Order: x.Order})
	}
	return api.OK
}

// receive does a StepBytes.
func (g *gate) receive(s api.Step) api.Errno {
	if !g.isPresent(s.Tenant) {
		return api.ErrArg
	}
	if len(s.Bytes) > api.MaxBytes {
		return api.ErrMany
	}
	p := port{g, &g.Accounts[s.Tenant], s.Tenant}
	frames, rest, e := wire.Split(slices.Concat(p.Pending, s.Bytes))
	if e != api.OK {
		return e
	}
	for _, frame := range frames {
		g.put(s.Tenant, p.answer(frame))
	}
	p.Pending = rest
	return api.OK
}

// stall does a StepStall.
func (g *gate) stall(s api.Step) api.Errno {
	f, e := traffic.Stall(g.Config, g.Fleet, s.Tenant, s.Robot)
	if e != api.OK {
		return e
	}
	g.Fleet = f
	return api.OK
}

// mint does a StepMint.
func (g *gate) mint(s api.Step) api.Errno {
	if !g.isPresent(s.Tenant) {
		return api.ErrArg
	}
	a := &g.Accounts[s.Tenant]
	ring, token, e := auth.Issue(a.Ring, g.Key, s.Tenant, s.Role, s.Life, g.Fleet.Tick)
	switch e {
	case api.OK:
		a.Ring = ring
	case api.ErrFull:
		// That no more tokens can be issued is for the tenant to know: the step is done, with this output.
	default:
		return e
	}
	g.put(s.Tenant, api.Reply{Kind: api.KindToken, Code: e, Token: token})
	return api.OK
}

// put adds an output of the present tick at a port.
func (g *gate) put(t int, r api.Reply) {
	r.Tick = g.Fleet.Tick
	// What a valid world has fits the fields of a reply, and so do the codes, so that there is no error.
	b, _ := wire.EncodeReply(r)
	g.outs = append(g.outs, api.Out{Tenant: t, Tick: r.Tick, Bytes: b})
}

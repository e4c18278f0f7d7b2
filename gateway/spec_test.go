package gateway_test

import (
	"math"
	"regexp"
	"slices"
	"strconv"
	"strings"

	"dunnage/api"
	"dunnage/auth"
	"dunnage/config"
	"dunnage/crew"
	"dunnage/digest"
	"dunnage/orders"
	"dunnage/route"
	"dunnage/traffic"
	"dunnage/wire"
)

// The functions of this file restate the chapter's definitions as literally as possible, with what lower layers return.

// specIsPresent reports whether a number is one of a present tenant.
func specIsPresent(c api.Config, t int) bool {
	return t >= 0 && t < len(c.Teams) && len(c.Teams[t].Homes) > 0
}

// specIsBeginning reports whether bytes are the beginning of a frame, or none.
func specIsBeginning(b []byte) bool {
	if len(b) < 2 {
		return true
	}
	length := int(b[0])*256 + int(b[1])
	return length >= 2 && length <= 64 && len(b) < length
}

// specCheck returns what Check returns.
func specCheck(w api.World) api.Errno {
	if e := config.Check(w.Config); e != api.OK {
		return e
	}
	if len(w.Key) < 1 || len(w.Key) > 64 || traffic.Check(w.Config, w.Fleet) != api.OK || len(w.Accounts) != len(w.Config.Teams) {
		return api.ErrBad
	}
	for t, a := range w.Accounts {
		if specIsPresent(w.Config, t) {
			if auth.Check(a.Ring) != api.OK || wire.CheckLog(a.Log) != api.OK || !specIsBeginning(a.Pending) {
				return api.ErrBad
			}
			continue
		}
		if len(a.Ring) > 0 || len(a.Pending) > 0 || a.Log.Count != 0 || a.Log.Link != [32]byte{} || len(a.Log.Records) > 0 {
			return api.ErrBad
		}
	}
	return api.OK
}

// specNew returns what New returns.
func specNew(conf, key []byte) (api.World, api.Errno) {
	c, e := config.Decode(conf)
	if e != api.OK {
		return api.World{}, e
	}
	if len(key) < 1 || len(key) > 64 {
		return api.World{}, api.ErrArg
	}
	if route.Sound(c) != api.OK {
		return api.World{}, api.ErrRoute
	}
	w := api.World{Config: c, Key: key}
	w.Fleet, _ = traffic.New(c)
	for range c.Teams {
		w.Accounts = append(w.Accounts, api.Account{})
	}
	return w, api.OK
}

// specCarryOut carries out a request that is authorized.
func specCarryOut(w *api.World, t int, q api.Request) (r api.Reply, e api.Errno) {
	f, a := w.Fleet, &w.Accounts[t]
	switch q.Kind {
	case api.KindSubmit:
		f, r.Order, e = traffic.Submit(w.Config, w.Fleet, t, int(q.Pick), int(q.Drop))
	case api.KindCancel:
		f, e = traffic.Cancel(w.Config, w.Fleet, t, int(q.Number))
	case api.KindQuery:
		var o api.Order
		o, e = orders.Get(w.Config.Teams[t], w.Fleet.Crews[t].Book, int(q.Number))
		r.State, r.Done = o.State, o.Done
	case api.KindWatch:
		r.Robots, r.Queued, e = crew.View(w.Config, t, w.Fleet.Crews[t], w.Fleet.Tick)
	case api.KindLog:
		r.Count = a.Log.Count
		r.Records, e = wire.Since(a.Log, q.Number)
	case api.KindRevoke:
		var ring []api.Minted
		if ring, e = auth.Revoke(a.Ring, q.Number); e == api.OK {
			a.Ring = ring
		}
	}
	if e == api.OK {
		w.Fleet = f
	}
	return r, e
}

// specAnswer answers a frame at a port.
func specAnswer(w *api.World, t int, frame []byte) api.Out {
	a, r := &w.Accounts[t], api.Reply{}
	if a.Log.Count == math.MaxUint32 {
		return outOf(t, api.Reply{Code: api.ErrFull, Tick: w.Fleet.Tick})
	}
	q, e := wire.DecodeRequest(frame)
	if e == api.OK {
		r.Kind = q.Kind
		e = auth.Authorize(a.Ring, w.Key, t, q.Token, q.Kind, w.Fleet.Tick)
		if e == api.OK {
			r, e = specCarryOut(w, t, q)
		}
	}
	if e != api.OK {
		r = api.Reply{Code: e}
	}
	r.Kind, r.Tick = q.Kind, w.Fleet.Tick
	a.Log, _ = wire.Append(a.Log, w.Fleet.Tick, r.Kind, r.Code, frame)
	return outOf(t, r)
}

// specStep returns what Step returns.
func specStep(w api.World, s api.Step) result {
	if e := specCheck(w); e != api.OK {
		return result{e: e}
	}
	r := result{w: copied(w)}
	if s.Kind >= api.StepBytes && s.Kind <= api.StepMint && !specIsPresent(w.Config, s.Tenant) {
		return result{e: api.ErrArg}
	}
	switch s.Kind {
	case api.StepTick:
		specTick(&r)
	case api.StepBytes:
		if len(s.Bytes) > 4096 {
			return result{e: api.ErrMany}
		}
		frames, rest, _ := wire.Split(slices.Concat(w.Accounts[s.Tenant].Pending, s.Bytes))
		for _, frame := range frames {
			r.outs = append(r.outs, specAnswer(&r.w, s.Tenant, frame))
		}
		r.w.Accounts[s.Tenant].Pending = rest
	case api.StepStall:
		r.w.Fleet, r.e = traffic.Stall(w.Config, w.Fleet, s.Tenant, s.Robot)
	case api.StepMint:
		ring, token, e := auth.Issue(w.Accounts[s.Tenant].Ring, w.Key, s.Tenant, s.Role, s.Life, w.Fleet.Tick)
		switch e {
		case api.OK:
			r.w.Accounts[s.Tenant].Ring = ring
			r.outs = []api.Out{outOf(s.Tenant, api.Reply{Kind: api.KindToken, Tick: w.Fleet.Tick, Token: token})}
		case api.ErrFull:
			r.outs = []api.Out{outOf(s.Tenant, api.Reply{Kind: api.KindToken, Tick: w.Fleet.Tick, Code: e})}
		default:
			r.e = e
		}
	default:
		r.e = api.ErrArg
	}
	if r.e != api.OK {
		return result{e: r.e}
	}
	return r
}

// specTick does a tick of a world that is copied into a result.
func specTick(r *result) {
	if r.w.Fleet.Tick == 1<<62 {
		for t := range r.w.Config.Teams {
			if specIsPresent(r.w.Config, t) {
				r.outs = append(r.outs, outOf(t, api.Reply{Kind: api.KindHalted, Code: api.ErrHalted, Tick: 1 << 62}))
			}
		}
		return
	}
	f, done, e := traffic.Step(r.w.Config, r.w.Fleet)
	r.w.Fleet, r.e = f, e
	for _, x := range done {
		r.outs = append(r.outs, outOf(x.Tenant, api.Reply{Kind: api.KindDone, Tick: f.Tick, Order: x.Order}))
	}
}

// specRun returns what Run returns, with what Step returns for each step.
func specRun(conf, key []byte, l []api.Step) ([]api.Out, api.Errno) {
	w, e := specNew(conf, key)
	if e != api.OK {
		return nil, e
	}
	if len(l) > 4096 {
		return nil, api.ErrMany
	}
	var outs []api.Out
	for _, s := range l {
		if r := specStep(w, s); r.e == api.OK {
			w, outs = r.w, append(outs, r.outs...)
		}
	}
	return outs, api.OK
}

// specForm is the form of the lines of a script as text; numbers may be too great, and bytes too many.
var specForm = regexp.MustCompile(`^(?:(tick)(?: ([2-9]|[1-9][0-9]{1,2}|1000))?|(bytes) (0|[1-9][0-9]*) (-|(?:[0-9a-f]{2})+)|(stall) (0|[1-9][0-9]*) (0|[1-9][0-9]*)|(mint) (0|[1-9][0-9]*) (0|[1-9][0-9]*) (0|[1-9][0-9]*))$`)

// specLine returns the steps of a line, and whether it is of the right form.
func specLine(text string) ([]api.Step, bool) {
	if text == "" || text[0] == '#' {
		return nil, true
	}
	x := specForm.FindStringSubmatch(text)
	if x == nil {
		return nil, false
	}
	is := true
	number := func(word string) int {
		n, err := strconv.Atoi(word)
		is = is && err == nil
		return n
	}
	switch {
	case x[1] != "":
		many := 1
		if x[2] != "" {
			many = number(x[2])
		}
		return ticks(many), is
	case x[3] != "":
		b, e := digest.ParseHex(strings.TrimPrefix(x[5], "-"))
		s := bytesStep(number(x[4]), b)
		return []api.Step{s}, is && e == api.OK && len(b) <= 4096
	case x[6] != "":
		return []api.Step{stallStep(number(x[7]), number(x[8]))}, is
	}
	role, life := number(x[11]), number(x[12])
	return []api.Step{mintStep(number(x[10]), uint8(role), uint64(life))}, is && role <= 255
}

// specParse returns what Parse returns.
func specParse(s string) ([]api.Step, int, api.Errno) {
	if len(s) > 16384 {
		return nil, 0, api.ErrMany
	}
	if s == "" {
		return nil, 0, api.OK
	}
	if s[len(s)-1] != '\n' {
		return nil, 1 + strings.Count(s, "\n"), api.ErrLine
	}
	var steps []api.Step
	for i, text := range strings.Split(s[:len(s)-1], "\n") {
		if i == 1024 {
			return nil, i + 1, api.ErrMany
		}
		more, is := specLine(text)
		if !is {
			return nil, i + 1, api.ErrLine
		}
		if steps = append(steps, more...); len(steps) > 4096 {
			return nil, i + 1, api.ErrMany
		}
	}
	return steps, 0, api.OK
}

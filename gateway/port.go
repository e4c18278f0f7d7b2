package gateway

import (
	"math"

	"dunnage/api"
	"dunnage/auth"
	"dunnage/crew"
	"dunnage/orders"
	"dunnage/traffic"
	"dunnage/wire"
)

// port is the port of a present tenant at a gate, with the tenant's account.
type port struct {
	*gate
	*api.Account
	tenant int
}

// answer returns the reply to a frame, which is noted in the log unless that is full.
func (p port) answer(frame []byte) api.Reply {
	if p.Log.Count == math.MaxUint32 {
		return api.Reply{Kind: api.KindNone, Code: api.ErrFull}
	}
	r := p.reply(frame)
	// The log is valid and has room, and the tick, the reply and the frame are within their limits, so that there is no error.
	p.Log, _ = wire.Append(p.Log, p.Fleet.Tick, r.Kind, r.Code, frame)
	return r
}

// reply returns the reply to a frame: to what it asks for, if that is carried out.
func (p port) reply(frame []byte) api.Reply {
	q, e := wire.DecodeRequest(frame)
	if e != api.OK {
		return api.Reply{Kind: api.KindNone, Code: e}
	}
	if e := auth.Authorize(p.Ring, p.Key, p.tenant, q.Token, q.Kind, p.Fleet.Tick); e != api.OK {
		return api.Reply{Kind: q.Kind, Code: e}
	}
	r, e := p.carryOut(q)
	if e != api.OK {
		return api.Reply{Kind: q.Kind, Code: e}
	}
	r.Kind = q.Kind
	return r
}

// carryOut does what a valid request that is authorized asks for, and returns the fields of the reply that its kind uses.
func (p port) carryOut(q api.Request) (api.Reply, api.Errno) {
	kinds := map[uint8]func(q api.Request) (api.Reply, api.Errno){
		api.KindSubmit: p.submit,
		api.KindCancel: p.cancel,
		api.KindQuery:  p.query,
		api.KindWatch:  p.watch,
		api.KindLog:    p.log,
		api.KindRevoke: p.revoke,
	}
	return kinds[q.Kind](q)
}

// submit carries out a KindSubmit.
func (p port) submit(q api.Request) (api.Reply, api.Errno) {
	f, id, e := traffic.Submit(p.Config, p.Fleet, p.tenant, int(q.Pick), int(q.Drop))
	if e != api.OK {
		return api.Reply{}, e
	}
	p.Fleet = f
	return api.Reply{Order: id}, api.OK
}

// cancel carries out a KindCancel.
func (p port) cancel(q api.Request) (api.Reply, api.Errno) {
	f, e := traffic.Cancel(p.Config, p.Fleet, p.tenant, int(q.Number))
	if e != api.OK {
		return api.Reply{}, e
	}
	p.Fleet = f
	return api.Reply{}, api.OK
}

// query carries out a KindQuery.
func (p port) query(q api.Request) (api.Reply, api.Errno) {
	o, e := orders.Get(p.Config.Teams[p.tenant], p.Fleet.Crews[p.tenant].Book, int(q.Number))
	return api.Reply{State: o.State, Done: o.Done}, e
}

// watch carries out a KindWatch.
func (p port) watch(api.Request) (api.Reply, api.Errno) {
	robots, queued, e := crew.View(p.Config, p.tenant, p.Fleet.Crews[p.tenant], p.Fleet.Tick)
	return api.Reply{Robots: robots, Queued: queued}, e
}

// log carries out a KindLog.
func (p port) log(q api.Request) (api.Reply, api.Errno) {
	records, e := wire.Since(p.Log, q.Number)
	return api.Reply{Count: p.Log.Count, Records: records}, e
}

// revoke carries out a KindRevoke.
func (p port) revoke(q api.Request) (api.Reply, api.Errno) {
	ring, e := auth.Revoke(p.Ring, q.Number)
	if e != api.OK {
		return api.Reply{}, e
	}
	p.Ring = ring
	return api.Reply{}, api.OK
}

package wire

import (
	"slices"

	"dunnage/api"
)

// CheckReply returns ErrBad unless a reply is valid.
func CheckReply(r api.Reply) api.Errno {
	if !upTo(maxCode, int(r.Code)) || !suits(r.Kind, r.Code) || r.Tick > api.MaxTick {
		return api.ErrBad
	}
	x := replyBody(r)
	if !x.isValid() || !sameReply(replyWith(r.Kind, r.Code, r.Tick, x), r) {
		return api.ErrBad
	}
	return api.OK
}

// EncodeReply returns the encoding of a reply.
func EncodeReply(r api.Reply) ([]byte, api.Errno) {
	if e := CheckReply(r); e != api.OK {
		return nil, e
	}
	b := put(nil, uint64(r.Kind), kindSize)
	b = put(b, uint64(r.Code), codeSize)
	b = put(b, r.Tick, tickSize)
	return framed(replyBody(r).appendTo(b)), api.OK
}

// DecodeReply returns the reply of an encoding.
func DecodeReply(b []byte) (api.Reply, api.Errno) {
	return decoded(b, lengthSize+kindSize+codeSize+tickSize, (*reader).reply)
}

// reply reads a valid reply.
func (in *reader) reply() api.Reply {
	kind := in.kind()
	code := in.code()
	tick := in.uint(tickSize)
	x := replyBody(api.Reply{Kind: kind, Code: code}).readFrom(in)
	r := replyWith(kind, code, tick, x)
	require(CheckReply(r) == api.OK, api.ErrForm)
	return r
}

// suits reports whether there are replies of a kind with a code that fits its field.
func suits(kind uint8, code api.Errno) bool {
	switch kind {
	case api.KindNone:
		return code != api.OK
	case api.KindDone:
		return code == api.OK
	case api.KindHalted:
		return code == api.ErrHalted
	}
	return kind == api.KindToken || kind <= api.KindRevoke
}

// replyBody returns the body of a reply. One of another kind, or with a code, has none of its fields.
func replyBody(r api.Reply) body {
	if r.Code != api.OK {
		return nothing{}
	}
	switch r.Kind {
	case api.KindSubmit, api.KindDone:
		return order{r.Order}
	case api.KindQuery:
		return progress{r.State, r.Done}
	case api.KindWatch:
		return telemetry{r.Robots, r.Queued}
	case api.KindLog:
		return history{r.Count, r.Records}
	case api.KindToken:
		return grant{r.Token}
	}
	return nothing{}
}

// replyWith returns the reply with a body.
func replyWith(kind uint8, code api.Errno, tick uint64, x body) api.Reply {
	r := api.Reply{Kind: kind, Code: code, Tick: tick}
	switch x := x.(type) {
	case order:
		r.Order = x.id
	case progress:
		r.State, r.Done = x.state, x.done
	case telemetry:
		r.Robots, r.Queued = x.robots, x.queued
	case history:
		r.Count, r.Records = x.count, x.records
	case grant:
		r.Token = x.token
	}
	return r
}

// sameReply reports whether all fields of two replies are the same.
func sameReply(a, b api.Reply) bool {
	return a.Kind == b.Kind && a.Code == b.Code && a.Tick == b.Tick &&
		a.Order == b.Order && a.State == b.State && a.Done == b.Done &&
		slices.Equal(a.Robots, b.Robots) && a.Queued == b.Queued &&
		a.Count == b.Count && slices.Equal(a.Records, b.Records) && a.Token == b.Token
}

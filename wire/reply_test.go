package wire_test

import (
	"math"
	"slices"
	"testing"

	"dunnage/api"
	"dunnage/wire"
)

// checkReply checks what CheckReply and EncodeReply return for a reply, and what becomes of it when it is decoded again.
func checkReply(t *testing.T, r api.Reply) {
	t.Helper()
	b, e := wire.EncodeReply(r)
	wanted, wantE := specEncodeReply(r)
	wantList(t, "EncodeReply", b, e, wanted, wantE)
	wantErrno(t, "CheckReply", wire.CheckReply(r), wantE)
	if e == api.OK {
		again, e := wire.DecodeReply(b)
		wantReply(t, "DecodeReply of EncodeReply", again, e, r, api.OK)
	}
}

// checkDecodeReply checks what DecodeReply returns for some bytes, and what becomes of it when it is encoded again.
func checkDecodeReply(t *testing.T, what string, b []byte) {
	t.Helper()
	r, e := wire.DecodeReply(b)
	wanted, wantE := specDecodeReply(b)
	wantReply(t, what, r, e, wanted, wantE)
	if e == api.OK {
		wantErrno(t, "CheckReply of what was decoded", wire.CheckReply(r), api.OK)
		wantList(t, "EncodeReply of what was decoded", encodedReply(t, r), api.OK, b, api.OK)
	}
}

// P7.3: the examples.
func TestReplyExamples(t *testing.T) {
	for _, x := range []struct {
		r    api.Reply
		want []byte
	}{
		{api.Reply{Kind: api.KindSubmit, Tick: 3, Order: 5}, []byte{0, 15, 1, 0, 0, 0, 0, 0, 0, 0, 0, 0, 3, 0, 5}},
		{api.Reply{Kind: api.KindSubmit, Code: api.ErrQuota, Tick: 3}, []byte{0, 13, 1, 0, 160, 0, 0, 0, 0, 0, 0, 0, 3}},
		{api.Reply{Kind: api.KindHalted, Code: api.ErrHalted}, []byte{0, 13, 17, 1, 0x18, 0, 0, 0, 0, 0, 0, 0, 0}},
		{api.Reply{Kind: api.KindWatch, Tick: 1, Robots: []api.Sight{{Place: 7}}, Queued: 2}, []byte{0, 19, 4, 0, 0, 0, 0, 0, 0, 0, 0, 0, 1, 1, 7, 0, 0, 0, 2}},
		{api.Reply{Kind: api.KindQuery, Tick: 258, State: 4, Done: 259}, []byte{0, 22, 3, 0, 0, 0, 0, 0, 0, 0, 0, 1, 2, 4, 0, 0, 0, 0, 0, 0, 1, 3}},
	} {
		wantList(t, "EncodeReply", encodedReply(t, x.r), api.OK, x.want, api.OK)
		checkDecodeReply(t, "DecodeReply", x.want)
	}
	for _, r := range []api.Reply{{}, {Kind: api.KindHalted}, {Kind: api.KindNone}, {Kind: api.KindDone, Code: 1}} {
		b, e := wire.EncodeReply(r)
		wantList(t, "an invalid reply", b, e, nil, api.ErrBad)
	}
	b := encodedReply(t, api.Reply{Kind: api.KindSubmit, Code: api.ErrQuota, Tick: 3})
	r, e := wire.DecodeReply(b[:12])
	wantReply(t, "12 bytes", r, e, api.Reply{}, api.ErrShort)
	r, e = wire.DecodeReply(append(b, 0))
	wantReply(t, "a 14th byte", r, e, api.Reply{}, api.ErrForm)
	if b := encodedReply(t, api.Reply{Kind: api.KindLog, Records: someRecords(32)}); len(b) != 18+32*43 {
		t.Errorf("the longest reply has %d bytes", len(b))
	}
}

// P7.3: valid replies, which are longer than MaxFrame as well.
func TestReplies(t *testing.T) {
	for _, r := range validReplies() {
		wantErrno(t, "CheckReply", wire.CheckReply(r), api.OK)
		checkReply(t, r)
	}
}

// P7.3: all kinds with all sorts of codes and ticks.
func TestHeadsOfReplies(t *testing.T) {
	for kind := range 256 {
		for _, code := range someCodes {
			for _, tick := range someTicks {
				// Without a State no reply to Query is valid, if its code is 0.
				for _, state := range []uint8{0, 1} {
					checkReply(t, api.Reply{Kind: uint8(kind), Code: code, Tick: tick, State: state})
				}
			}
		}
	}
}

// fieldsOfReplies returns functions that each set one of the fields that depend on a reply's kind, to values within their ranges and out of them.
func fieldsOfReplies() []func(r *api.Reply) {
	var all []func(r *api.Reply)
	add := func(set func(r *api.Reply)) { all = append(all, set) }
	for _, n := range append([]int{0, 1, 7, 8, 9, 63, 64, 65, 255, 256, 65535}, hugeNumbers...) {
		add(func(r *api.Reply) { r.Order = n })
		add(func(r *api.Reply) { r.Queued = n })
		add(func(r *api.Reply) { r.Robots = []api.Sight{{Place: n}} })
		add(func(r *api.Reply) { r.Robots = []api.Sight{aSight(), {Order: n}, {}} })
		add(func(r *api.Reply) { r.Robots = []api.Sight{{}, {}, {Place: n, Order: n}} })
		add(func(r *api.Reply) { r.Records = append(someRecords(3), api.Record{Code: api.Errno(n)}) })
		add(func(r *api.Reply) { r.Count = uint32(n) })
	}
	for _, n := range []uint8{0, 1, 2, 3, 4, 5, 6, 7, 8, 9, 127, 128, 129, 255} {
		add(func(r *api.Reply) { r.State = n })
		add(func(r *api.Reply) { r.Robots = []api.Sight{{}, {State: n}} })
		add(func(r *api.Reply) { r.Records = append([]api.Record{{Kind: n}}, someRecords(3)...) })
	}
	for _, tick := range someTicks {
		add(func(r *api.Reply) { r.Done = tick })
		add(func(r *api.Reply) { r.Records = []api.Record{{Tick: tick, Link: [32]byte{1}}} })
	}
	for _, many := range []int{0, 1, 2, 3, 4, 5, 31, 32, 33, 255, 256, 257, 1<<16 + 1} {
		add(func(r *api.Reply) { r.Robots = make([]api.Sight, many) })
		add(func(r *api.Reply) { r.Records = make([]api.Record, many) })
	}
	for _, x := range append(someTokens(), api.Token{Tenant: 1}, api.Token{Role: 1}, api.Token{Expiry: 1}, api.Token{Serial: 1}) {
		add(func(r *api.Reply) { r.Token = x })
	}
	return all
}

// P7.3: each field is zero unless the kind uses it and the code is 0, and within its range if it does.
func TestFieldsOfReplies(t *testing.T) {
	fields := fieldsOfReplies()
	for _, kind := range []uint8{0, 1, 2, 3, 4, 5, 6, 7, 16, 17, 18, 19} {
		for _, code := range []api.Errno{0, 1, 280} {
			for _, set := range fields {
				for _, state := range []uint8{0, 2} {
					r := api.Reply{Kind: kind, Code: code, Tick: 9, State: state}
					set(&r)
					checkReply(t, r)
				}
			}
		}
	}
	for _, valid := range repliesOfKinds() {
		for _, set := range fields {
			r := valid
			set(&r)
			checkReply(t, r)
		}
	}
}

// P7.3, P7.7: encodings of which a byte is changed are those of other replies, or of none.
func TestDecodeOfOtherReplies(t *testing.T) {
	for _, r := range repliesOfKinds() {
		b := specReply(r)
		for i := range min(len(b), 150) {
			values := []byte{b[i] ^ 1, b[i] ^ 64, b[i] ^ 128, 0, 1, 6, 7, 65, 255}
			if i < 24 && len(b) < 150 {
				values = counting(0, 256)
			}
			for _, value := range values {
				other := slices.Clone(b)
				other[i] = value
				checkDecodeReply(t, "a byte changed", other)
			}
		}
	}
}

// P7.3, P7.7: no beginning of an encoding is one, nor one with further bytes, also if the length in front says so.
func TestDecodeOfRepliesOfOtherLengths(t *testing.T) {
	for _, r := range repliesOfKinds() {
		b := specReply(r)
		for n := range b {
			checkDecodeReply(t, "a beginning", b[:n])
			checkDecodeReply(t, "a beginning with its length", withLength(b[:n]))
			if _, e := wire.DecodeReply(b[:n]); e == api.OK {
				t.Errorf("the first %d bytes of %v are an encoding", n, b)
			}
		}
		for more := 1; more < 50; more++ {
			long := append(slices.Clone(b), make([]byte, more)...)
			checkDecodeReply(t, "further bytes", long)
			checkDecodeReply(t, "further bytes with their length", withLength(long))
		}
	}
	for _, many := range []int{13, 14, 15, 256 + 13, 1<<16 + 13, 1 << 20} {
		b := make([]byte, many)
		checkDecodeReply(t, "zeros", b)
		b[0], b[1], b[2] = byte(many>>8), byte(many), 2
		checkDecodeReply(t, "a length modulo 65536", b)
	}
}

// P7.3: lists with more elements than there may be, in bytes that have them all.
func TestDecodeOfLongLists(t *testing.T) {
	head := func(kind uint8) []byte { return []byte{0, 0, kind, 0, 0, 0, 0, 0, 0, 0, 0, 0, 1} }
	for many := range 256 {
		robots := slices.Concat(head(4), []byte{byte(many)}, make([]byte, 4*many), []byte{0})
		checkDecodeReply(t, "robots", withLength(robots))
		records := slices.Concat(head(5), []byte{0, 0, 0, 0, byte(many)}, make([]byte, 43*many))
		checkDecodeReply(t, "records", withLength(records))
	}
}

// P7.3: ticks in the bytes of a reply.
func TestDecodeOfTicks(t *testing.T) {
	for _, tick := range someTicks {
		for _, r := range []api.Reply{
			{Kind: api.KindCancel, Tick: tick},
			{Kind: api.KindQuery, State: 1, Done: tick},
			{Kind: api.KindLog, Records: []api.Record{{}, {Tick: tick}}},
		} {
			again, e := wire.DecodeReply(specReply(r))
			if tick <= api.MaxTick {
				wantReply(t, "a tick", again, e, r, api.OK)
			} else {
				wantReply(t, "a late tick", again, e, api.Reply{}, api.ErrForm)
			}
			checkDecodeReply(t, "a tick", specReply(r))
		}
	}
	checkDecodeReply(t, "the largest Count", specReply(api.Reply{Kind: api.KindLog, Count: math.MaxUint32}))
}

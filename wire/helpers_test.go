package wire_test

import (
	"bytes"
	"math"
	"slices"
	"testing"

	"dunnage/api"
	"dunnage/wire"
)

// hugeNumbers are far out of each range, and so chosen that a conversion to fewer bits would bring them back.
var hugeNumbers = []int{math.MinInt, math.MinInt + 1, -1 << 32, -1 << 16, -256, -2, -1, 1 << 16, 1<<16 + 1, 1<<16 + 280, 1 << 32, 1<<32 + 1, 1<<32 + 280, 1 << 62, math.MaxInt}

// lateTicks are beyond MaxTick.
var lateTicks = []uint64{api.MaxTick + 1, api.MaxTick + 8, api.MaxLook, 1 << 63, math.MaxUint64 - 1, math.MaxUint64}

// someTicks are ticks, and numbers that are none.
var someTicks = append([]uint64{0, 1, 4, 255, 256, 258, 1 << 32, 0x0102030405060708, api.MaxTick - 1, api.MaxTick}, lateTicks...)

// someKinds are kinds of requests and of replies, and numbers that are none.
var someKinds = []uint8{0, 1, 2, 3, 4, 5, 6, 7, 8, 15, 16, 17, 18, 19, 20, 127, 128, 129, 254, 255}

// someCodes are codes, and numbers that are none.
var someCodes = func() []api.Errno {
	all := []api.Errno{0, 1, 2, 160, 255, 256, 279, 280, 281, 320, 65534, 65535}
	for _, n := range hugeNumbers {
		all = append(all, api.Errno(n))
	}
	return all
}()

// wantErrno checks an error number.
func wantErrno(t *testing.T, what string, got, want api.Errno) {
	t.Helper()
	if got != want {
		t.Errorf("%s: error %d, want %d", what, got, want)
	}
}

// want checks a result and an error number.
func want[T comparable](t *testing.T, what string, got T, e api.Errno, wanted T, wantE api.Errno) {
	t.Helper()
	if got != wanted || e != wantE {
		t.Errorf("%s: %v, %d, want %v, %d", what, got, e, wanted, wantE)
	}
}

// wantList checks a list and an error number; nil and empty lists are the same.
func wantList[T comparable](t *testing.T, what string, got []T, e api.Errno, wanted []T, wantE api.Errno) {
	t.Helper()
	if !slices.Equal(got, wanted) || e != wantE {
		t.Errorf("%s: %v, %d, want %v, %d", what, got, e, wanted, wantE)
	}
}

// wantSplit checks what Split returned.
func wantSplit(t *testing.T, what string, frames [][]byte, rest []byte, e api.Errno, wanted [][]byte, wantRest []byte, wantE api.Errno) {
	t.Helper()
	if !slices.EqualFunc(frames, wanted, bytes.Equal) || !bytes.Equal(rest, wantRest) || e != wantE {
		t.Errorf("%s: %v, %v, %d, want %v, %v, %d", what, frames, rest, e, wanted, wantRest, wantE)
	}
}

// wantReply checks a reply and an error number.
func wantReply(t *testing.T, what string, got api.Reply, e api.Errno, wanted api.Reply, wantE api.Errno) {
	t.Helper()
	if !specSameReply(got, wanted) || e != wantE {
		t.Errorf("%s: %v, %d, want %v, %d", what, got, e, wanted, wantE)
	}
}

// sameLog reports whether two logs are the same.
func sameLog(a, b api.Log) bool {
	return a.Count == b.Count && a.Link == b.Link && slices.Equal(a.Records, b.Records)
}

// wantLog checks a log and an error number.
func wantLog(t *testing.T, what string, got api.Log, e api.Errno, wanted api.Log, wantE api.Errno) {
	t.Helper()
	if !sameLog(got, wanted) || e != wantE {
		t.Errorf("%s: %v, %d, want %v, %d", what, got, e, wanted, wantE)
	}
}

// drawer returns a function that draws numbers below a limit, the same ones in each run.
func drawer(seed int) func(limit int) int {
	x := uint32(seed)
	return func(limit int) int {
		x = x*1664525 + 1013904223
		return int(x>>16) % limit
	}
}

// oneOf draws an element of a list.
func oneOf[T any](draw func(limit int) int, l []T) T { return l[draw(len(l))] }

// drawnBytes returns some bytes, of which many are small.
func drawnBytes(draw func(limit int) int, many int) []byte {
	b := make([]byte, many)
	for i := range b {
		b[i] = byte(draw(oneOf(draw, []int{1, 1, 1, 3, 12, 80, 256})))
	}
	return b
}

// counting returns the bytes from a first one on.
func counting(first byte, many int) []byte {
	b := make([]byte, many)
	for i := range b {
		b[i] = first + byte(i)
	}
	return b
}

// aToken returns a token with different bytes everywhere.
func aToken() api.Token {
	return api.Token{Tenant: 0xa1, Role: 0xb2, Expiry: 0x0102030405060708, Serial: 0x90a0b0c0, Tag: [32]byte(counting(0x20, 32))}
}

// fullToken returns the token whose bytes are all 255.
func fullToken() api.Token {
	return api.Token{Tenant: 255, Role: 255, Expiry: math.MaxUint64, Serial: math.MaxUint32, Tag: [32]byte(slices.Repeat([]byte{255}, 32))}
}

// someTokens returns tokens of all sorts.
func someTokens() []api.Token {
	return []api.Token{{}, aToken(), fullToken(), {Tenant: 1, Role: 2, Expiry: 258, Serial: 3}, {Tag: [32]byte{31: 1}}}
}

// validRequests returns valid requests of all kinds.
func validRequests() []api.Request {
	var all []api.Request
	for _, x := range someTokens() {
		for _, spots := range [][2]uint8{{0, 0}, {2, 1}, {255, 0}, {0, 255}, {255, 255}} {
			all = append(all, api.Request{Kind: api.KindSubmit, Token: x, Pick: spots[0], Drop: spots[1]})
		}
		for _, n := range []uint32{0, 1, 255, 256, 258, 65280, 65535} {
			all = append(all, api.Request{Kind: api.KindCancel, Token: x, Number: n}, api.Request{Kind: api.KindQuery, Token: x, Number: n})
		}
		all = append(all, api.Request{Kind: api.KindWatch, Token: x})
		for _, n := range []uint32{0, 1, 258, 65535, 65536, 0x01020304, 1 << 31, math.MaxUint32} {
			all = append(all, api.Request{Kind: api.KindLog, Token: x, Number: n}, api.Request{Kind: api.KindRevoke, Token: x, Number: n})
		}
	}
	return all
}

// someRecords returns valid records, as many as are wanted.
func someRecords(many int) []api.Record {
	var l []api.Record
	ticks := []uint64{0, 258, 0x0102030405060708, api.MaxTick}
	codes := []api.Errno{0, 8, 280, 65535}
	for i := range many {
		l = append(l, api.Record{Tick: ticks[i%4], Kind: uint8(i % 7), Code: codes[i/2%4], Link: [32]byte(counting(byte(3*i), 32))})
	}
	return l
}

// aSight returns a robot in telemetry with the largest numbers.
func aSight() api.Sight { return api.Sight{Place: 63, State: 8, Order: 64} }

// repliesOfKinds returns valid replies of all kinds, at the tick 0.
func repliesOfKinds() []api.Reply {
	var all []api.Reply
	for _, kind := range []uint8{0, 1, 2, 3, 4, 5, 6, 18} {
		for _, code := range []api.Errno{1, 160, 255, 256, 280, 65535} {
			all = append(all, api.Reply{Kind: kind, Code: code})
		}
	}
	all = append(all, api.Reply{Kind: api.KindHalted, Code: api.ErrHalted}, api.Reply{Kind: api.KindCancel}, api.Reply{Kind: api.KindRevoke})
	for _, n := range []int{0, 1, 64, 258, 65535} {
		all = append(all, api.Reply{Kind: api.KindSubmit, Order: n}, api.Reply{Kind: api.KindDone, Order: n})
	}
	for state := api.OrderQueued; state <= api.OrderCancelled; state++ {
		for _, done := range []uint64{0, 258, 0x0102030405060708, api.MaxTick} {
			all = append(all, api.Reply{Kind: api.KindQuery, State: state, Done: done})
		}
	}
	for _, queued := range []int{0, 2, 8} {
		for _, robots := range [][]api.Sight{nil, {}, {{Place: 7}}, {{State: 1}, aSight()}, {aSight(), {Order: 3}, {Place: 1, State: 2, Order: 3}}} {
			all = append(all, api.Reply{Kind: api.KindWatch, Robots: robots, Queued: queued})
		}
	}
	for _, count := range []uint32{0, 1, 0x01020304, math.MaxUint32} {
		for _, many := range []int{0, 1, 2, 31, 32} {
			all = append(all, api.Reply{Kind: api.KindLog, Count: count, Records: someRecords(many)})
		}
	}
	for _, x := range someTokens() {
		all = append(all, api.Reply{Kind: api.KindToken, Token: x})
	}
	return all
}

// validReplies returns valid replies of all kinds at some ticks.
func validReplies() []api.Reply {
	var all []api.Reply
	for _, r := range repliesOfKinds() {
		for _, tick := range []uint64{0, 258, 0x0102030405060708, api.MaxTick} {
			r.Tick = tick
			all = append(all, r)
		}
	}
	return all
}

// encodedRequest returns the encoding of a valid request.
func encodedRequest(t *testing.T, r api.Request) []byte {
	t.Helper()
	b, e := wire.EncodeRequest(r)
	wantErrno(t, "EncodeRequest", e, api.OK)
	return b
}

// encodedReply returns the encoding of a valid reply.
func encodedReply(t *testing.T, r api.Reply) []byte {
	t.Helper()
	b, e := wire.EncodeReply(r)
	wantErrno(t, "EncodeReply", e, api.OK)
	return b
}

// withLength returns the same bytes with the length that they have in front.
func withLength(b []byte) []byte {
	b = slices.Clone(b)
	if len(b) >= 2 {
		b[0], b[1] = byte(len(b)>>8), byte(len(b))
	}
	return b
}

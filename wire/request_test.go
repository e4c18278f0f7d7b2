package wire_test

import (
	"math"
	"slices"
	"testing"

	"dunnage/api"
	"dunnage/wire"
)

// checkRequest checks what CheckRequest and EncodeRequest return for a request, and what becomes of it when it is decoded again.
func checkRequest(t *testing.T, r api.Request) {
	t.Helper()
	b, e := wire.EncodeRequest(r)
	wanted, wantE := specEncodeRequest(r)
	wantList(t, "EncodeRequest", b, e, wanted, wantE)
	wantErrno(t, "CheckRequest", wire.CheckRequest(r), wantE)
	if e == api.OK {
		again, e := wire.DecodeRequest(b)
		want(t, "DecodeRequest of EncodeRequest", again, e, r, api.OK)
	}
}

// checkDecodeRequest checks what DecodeRequest returns for some bytes, and what becomes of it when it is encoded again.
func checkDecodeRequest(t *testing.T, what string, b []byte) {
	t.Helper()
	r, e := wire.DecodeRequest(b)
	wanted, wantE := specDecodeRequest(b)
	want(t, what, r, e, wanted, wantE)
	if e == api.OK {
		wantErrno(t, "CheckRequest of what was decoded", wire.CheckRequest(r), api.OK)
		wantList(t, "EncodeRequest of what was decoded", encodedRequest(t, r), api.OK, b, api.OK)
	}
}

// P7.2: the examples.
func TestRequestExamples(t *testing.T) {
	b := encodedRequest(t, api.Request{Kind: api.KindWatch})
	wantList(t, "Watch", b, api.OK, append([]byte{0, 0x31, 4}, make([]byte, 46)...), api.OK)
	checkDecodeRequest(t, "with a byte more", append(b, 0))
	b = encodedRequest(t, api.Request{Kind: api.KindSubmit, Pick: 2, Drop: 1})
	wantList(t, "Submit", b, api.OK, slices.Concat([]byte{0, 51, 1}, make([]byte, 46), []byte{2, 1}), api.OK)
	b = encodedRequest(t, api.Request{Kind: api.KindCancel, Number: 258})
	wantList(t, "Cancel", b, api.OK, slices.Concat([]byte{0, 51, 2}, make([]byte, 46), []byte{1, 2}), api.OK)
	b = encodedRequest(t, api.Request{Kind: api.KindLog, Token: aToken(), Number: 0x01020304})
	wantList(t, "Log", b, api.OK, slices.Concat([]byte{0, 53, 5}, specToken(aToken()), []byte{1, 2, 3, 4}), api.OK)
	for _, r := range []api.Request{{Kind: api.KindCancel, Number: 65536}, {Kind: api.KindWatch, Number: 1}, {Kind: 7}, {}} {
		b, e := wire.EncodeRequest(r)
		wantList(t, "an invalid request", b, e, nil, api.ErrBad)
	}
	for _, x := range []struct {
		b []byte
		e api.Errno
	}{{nil, api.ErrShort}, {[]byte{0}, api.ErrShort}, {[]byte{0, 1}, api.ErrShort}, {[]byte{0, 3, 4}, api.ErrForm}, {[]byte{0, 2, 4}, api.ErrForm}} {
		r, e := wire.DecodeRequest(x.b)
		want(t, "DecodeRequest", r, e, api.Request{}, x.e)
	}
}

// P7.2: requests with all sorts of fields, which are valid only if their kind uses them.
func TestRequests(t *testing.T) {
	for _, r := range validRequests() {
		wantErrno(t, "CheckRequest", wire.CheckRequest(r), api.OK)
		checkRequest(t, r)
	}
	numbers := []uint32{0, 1, 255, 256, 65535, 65536, 65537, 1 << 24, 1 << 31, math.MaxUint32 - 1, math.MaxUint32}
	for _, x := range someTokens() {
		for _, kind := range someKinds {
			for _, pick := range []uint8{0, 1, 128, 255} {
				for _, drop := range []uint8{0, 1, 128, 255} {
					for _, n := range numbers {
						checkRequest(t, api.Request{Kind: kind, Token: x, Pick: pick, Drop: drop, Number: n})
					}
				}
			}
		}
	}
	for kind := range 256 {
		checkRequest(t, api.Request{Kind: uint8(kind), Token: aToken()})
	}
}

// P7.2, P7.7: encodings of which a byte is changed are those of other requests, or of none.
func TestDecodeOfOtherRequests(t *testing.T) {
	for _, r := range validRequests() {
		b := specRequest(r)
		for i := range b {
			for _, value := range append([]byte{b[i] ^ 1, b[i] ^ 128}, 0, 1, 7, 49, 51, 53, 255) {
				other := slices.Clone(b)
				other[i] = value
				checkDecodeRequest(t, "a byte changed", other)
			}
		}
		for kind := range 256 {
			other := slices.Clone(b)
			other[2] = byte(kind)
			checkDecodeRequest(t, "another kind", other)
		}
	}
}

// P7.2, P7.7: no beginning of an encoding is one, nor one with further bytes, also if the length in front says so.
func TestDecodeOfOtherLengths(t *testing.T) {
	for _, r := range validRequests() {
		b := specRequest(r)
		for n := range b {
			checkDecodeRequest(t, "a beginning", b[:n])
			checkDecodeRequest(t, "a beginning with its length", withLength(b[:n]))
			if _, e := wire.DecodeRequest(b[:n]); e == api.OK {
				t.Errorf("the first %d bytes of %v are an encoding", n, b)
			}
		}
		for more := 1; more < 40; more++ {
			long := append(slices.Clone(b), make([]byte, more)...)
			checkDecodeRequest(t, "further bytes", long)
			checkDecodeRequest(t, "further bytes with their length", withLength(long))
		}
	}
	for _, many := range []int{3, 48, 49, 50, 51, 52, 53, 54, 64, 65, 305, 1<<16 + 49, 1 << 20} {
		checkDecodeRequest(t, "zeros", make([]byte, many))
		b := make([]byte, many)
		b[1], b[2] = byte(many), 4
		checkDecodeRequest(t, "a length modulo 256", b)
		b[0] = byte(many >> 8)
		checkDecodeRequest(t, "a length modulo 65536", b)
	}
}

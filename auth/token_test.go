package auth_test

import (
	"bytes"
	"slices"
	"testing"

	"dunnage/api"
	"dunnage/auth"
	"dunnage/digest"
)

// P6.1: the examples of the chapter.
func TestTokenExamples(t *testing.T) {
	b := auth.Encode(api.Token{Tenant: 1, Role: 2, Expiry: 258, Serial: 3})
	head := []byte{1, 2, 0, 0, 0, 0, 0, 0, 1, 2, 0, 0, 0, 3}
	if !bytes.Equal(b, append(head, make([]byte, 32)...)) {
		t.Errorf("Encode: % x", b)
	}
	for _, n := range []int{45, 47} {
		x, e := auth.Decode(make([]byte, n))
		want(t, "Decode", x, e, api.Token{}, api.ErrForm)
	}
	for _, key := range [][]byte{nil, make([]byte, 65)} {
		x, e := auth.Sign(key, aToken())
		want(t, "Sign", x, e, api.Token{}, api.ErrArg)
	}
}

// P6.1: Encode returns the fields one after the other, the highest byte first, of any token.
func TestEncode(t *testing.T) {
	b := auth.Encode(aToken())
	head := []byte{0xa1, 0xb2, 1, 2, 3, 4, 5, 6, 7, 8, 0x90, 0xa0, 0xb0, 0xc0}
	if len(b) != 46 || !bytes.Equal(b[:14], head) || b[14] != 0x20 || b[45] != 0x3f {
		t.Errorf("Encode: % x", b)
	}
	for _, x := range someTokens() {
		if got := auth.Encode(x); !bytes.Equal(got, specEncoding(x)) {
			t.Errorf("Encode of %v: % x", x, got)
		}
	}
}

// P6.1: Decode returns ErrForm unless there are exactly 46 bytes.
func TestDecode(t *testing.T) {
	b := specEncoding(aToken())
	x, e := auth.Decode(b)
	want(t, "Decode", x, e, aToken(), api.OK)
	for n := range 200 {
		long := slices.Repeat(b, 5)[:n]
		wanted, wantE := api.Token{}, api.ErrForm
		if n == 46 {
			wanted, wantE = aToken(), api.OK
		}
		x, e := auth.Decode(long)
		want(t, "Decode", x, e, wanted, wantE)
	}
	for _, n := range []int{46 + 256, 46 + 1<<16, 46 * 46} {
		x, e := auth.Decode(make([]byte, n))
		want(t, "Decode of many bytes", x, e, api.Token{}, api.ErrForm)
	}
	for i := range b {
		for _, n := range []byte{0, 1, 127, 128, 255} {
			other := bytes.Clone(b)
			other[i] = n
			x, e := auth.Decode(other)
			wantErrno(t, "Decode", e, api.OK)
			if !bytes.Equal(specEncoding(x), other) {
				t.Errorf("Decode of % x: %v", other, x)
			}
		}
	}
}

// P6.1: Sign returns the token with the tag of its head, whatever its own tag is.
func TestSign(t *testing.T) {
	for _, key := range goodKeys() {
		for _, x := range someTokens() {
			wanted, wantE := specSign(key, x)
			got, e := auth.Sign(key, x)
			want(t, "Sign", got, e, wanted, wantE)
			tag, e := digest.Tag(key, auth.Encode(x)[:14])
			want(t, "Tag", tag, e, got.Tag, api.OK)
			again, e := auth.Sign(key, got)
			want(t, "Sign of a signed token", again, e, got, api.OK)
		}
	}
}

// P6.1: Genuine reports whether the tag is the one of the head under the key.
func TestGenuine(t *testing.T) {
	for i, key := range goodKeys() {
		for _, x := range someTokens() {
			is, e := auth.Genuine(key, x)
			want(t, "Genuine", is, e, false, api.OK)
			s := signed(t, key, x)
			is, e = auth.Genuine(key, s)
			want(t, "Genuine of a signed token", is, e, true, api.OK)
			for j, other := range goodKeys() {
				is, e = auth.Genuine(other, s)
				want(t, "Genuine under a key", is, e, i == j, api.OK)
			}
		}
	}
}

// P6.1: Genuine looks at all fields of the head.
func TestGenuineOfAnotherHead(t *testing.T) {
	b := auth.Encode(signed(t, aKey, aToken()))
	for bit := range 14 * 8 {
		other := bytes.Clone(b)
		other[bit/8] ^= 1 << (bit % 8)
		x, e := auth.Decode(other)
		wantErrno(t, "Decode", e, api.OK)
		is, e := auth.Genuine(aKey, x)
		want(t, "Genuine of another head", is, e, false, api.OK)
	}
}

// P6.1: Sign and Genuine return ErrArg unless the key has from 1 to 64 bytes.
func TestKeys(t *testing.T) {
	for n := range 70 {
		key := bytes.Repeat([]byte{3}, n)
		wantX, wantE := specSign(key, aToken())
		x, e := auth.Sign(key, aToken())
		want(t, "Sign", x, e, wantX, wantE)
		is, e := auth.Genuine(key, x)
		want(t, "Genuine", is, e, n >= 1 && n <= 64, wantE)
	}
	for _, key := range badKeys() {
		for _, x := range someTokens() {
			got, e := auth.Sign(key, x)
			want(t, "Sign without a key", got, e, api.Token{}, api.ErrArg)
			is, e := auth.Genuine(key, x)
			want(t, "Genuine without a key", is, e, false, api.ErrArg)
		}
	}
}

// P6.5: Decode of Encode is the token, and Encode of Decode is the bytes.
func TestDecodeOfEncode(t *testing.T) {
	for _, x := range someTokens() {
		got, e := auth.Decode(auth.Encode(x))
		want(t, "Decode of Encode", got, e, x, api.OK)
	}
	draw := drawer(5)
	for range 2000 {
		b := make([]byte, 46)
		for i := range b {
			b[i] = byte(draw(256))
		}
		x, e := auth.Decode(b)
		wantErrno(t, "Decode", e, api.OK)
		if got := auth.Encode(x); !bytes.Equal(got, b) {
			t.Errorf("Encode of Decode of % x: % x", b, got)
		}
	}
}

// P6.5: a signed token is genuine, and is not if any bit of its tag is changed.
func TestBitsOfTheTag(t *testing.T) {
	for _, key := range goodKeys() {
		for _, x := range []api.Token{{}, aToken(), {Tenant: 2, Role: 3, Expiry: api.MaxTick, Serial: 32}} {
			s := signed(t, key, x)
			is, e := auth.Genuine(key, s)
			want(t, "Genuine", is, e, true, api.OK)
			for bit := range 256 {
				other := s
				other.Tag[bit/8] ^= 1 << (bit % 8)
				is, e := auth.Genuine(key, other)
				want(t, "Genuine of another tag", is, e, false, api.OK)
				// Two differences that would cancel each other out in a sum of the differences.
				other.Tag[(bit/8+1)%32] ^= 1 << (bit % 8)
				is, e = auth.Genuine(key, other)
				want(t, "Genuine of another tag", is, e, false, api.OK)
			}
		}
	}
}

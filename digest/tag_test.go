package digest_test

import (
	"bytes"
	"crypto/hmac"
	"crypto/sha256"
	"encoding/hex"
	"testing"

	"dunnage/api"
	"dunnage/digest"
)

// P1.3: Tag.
func TestTag(t *testing.T) {
	for _, x := range []struct{ key, text, want string }{
		{string(bytes.Repeat([]byte{0x0b}, 20)), "Hi There", "b0344c61d8db38535ca8afceaf0bf12b881dc200c9833da726e9376c2e32cff7"},
		{"Jefe", "what do ya want for nothing?", "5bdcc146bf60754e6a042426089575c75a003f089d2739839dec58b964ec3843"},
	} {
		tag := tagged(t, []byte(x.key), []byte(x.text))
		if hex.EncodeToString(tag[:]) != x.want {
			t.Errorf("%q: %x", x.text, tag)
		}
	}
	for size := 1; size <= api.MaxKey; size++ {
		for _, n := range []int{0, 1, 55, 64, 100, api.MaxInput - 64} {
			mac := hmac.New(sha256.New, pattern(size))
			mac.Write(pattern(n))
			if tag := tagged(t, pattern(size), pattern(n)); !bytes.Equal(tag[:], mac.Sum(nil)) {
				t.Errorf("another tag of %d bytes under %d bytes", n, size)
			}
		}
	}
}

// P1.3: the errors of Tag, and of Verify.
func TestTagErrors(t *testing.T) {
	for _, x := range []struct {
		size, length int
		want         api.Errno
	}{
		{0, 0, api.ErrArg},
		{65, 0, api.ErrArg},
		{1000, 0, api.ErrArg},
		{0, api.MaxInput, api.ErrArg},
		{65, api.MaxInput, api.ErrArg},
		{1, api.MaxInput - 63, api.ErrMany},
		{64, api.MaxInput - 63, api.ErrMany},
		{64, api.MaxInput + 1, api.ErrMany},
	} {
		tag, e := digest.Tag(make([]byte, x.size), make([]byte, x.length))
		wantErrno(t, "Tag", e, x.want)
		if tag != [32]byte{} {
			t.Errorf("Tag of %d bytes under %d bytes returns a tag with an error", x.length, x.size)
		}
		is, e := digest.Verify(make([]byte, x.size), make([]byte, x.length), [32]byte{})
		wantErrno(t, "Verify", e, x.want)
		if is {
			t.Errorf("Verify of %d bytes under %d bytes returns true with an error", x.length, x.size)
		}
	}
}

// wantVerify checks what Verify returns without an error.
func wantVerify(t *testing.T, key, b []byte, tag [32]byte, want bool) {
	t.Helper()
	is, e := digest.Verify(key, b, tag)
	wantErrno(t, "Verify", e, api.OK)
	if is != want {
		t.Errorf("Verify(% x, % x, %x): %v", key, b, tag, is)
	}
}

// P1.3: Verify; P1.7: it returns true for one tag only.
func TestVerify(t *testing.T) {
	key, b := pattern(33), pattern(70)
	tag := tagged(t, key, b)
	wantVerify(t, key, b, tag, true)
	wantVerify(t, pattern(32), b, tag, false)
	wantVerify(t, key, pattern(71), tag, false)
	wantVerify(t, key, b[:69], tag, false)
	wantVerify(t, key, b, [32]byte{}, false)
	for i := range 256 {
		other := tag
		other[i/8] ^= 1 << (i % 8)
		wantVerify(t, key, b, other, false)
		// Two differences that would cancel each other out in a sum of the differences.
		other[(i/8+1)%32] ^= 1 << (i % 8)
		wantVerify(t, key, b, other, false)
	}
	wantVerify(t, pattern(64), pattern(api.MaxInput-64), tagged(t, pattern(64), pattern(api.MaxInput-64)), true)
	wantVerify(t, []byte{0}, nil, tagged(t, []byte{0}, nil), true)
}

// extended returns a key of 64 bytes, each combined with a pad.
func extended(key []byte, pad byte) []byte {
	b := make([]byte, 64)
	copy(b, key)
	for i := range b {
		b[i] ^= pad
	}
	return b
}

// P1.7: the tag is the digest of the outer key and the inner digest.
func TestTagIsTwoDigests(t *testing.T) {
	for _, size := range []int{1, 2, 31, 32, 63, 64} {
		for _, n := range []int{0, 1, 63, 64, api.MaxInput - 64} {
			key, b := pattern(size), pattern(n)
			inner := summed(t, append(extended(key, 0x36), b...))
			if tagged(t, key, b) != summed(t, append(extended(key, 0x5c), inner[:]...)) {
				t.Errorf("another tag of %d bytes under %d bytes", n, size)
			}
		}
	}
}

// P1.7: zero bytes at the end of a key change no tag, other bytes do.
func TestZerosAtTheEndOfAKey(t *testing.T) {
	b := pattern(40)
	for _, key := range [][]byte{{0}, {1}, {7, 0, 9}, pattern(63)} {
		tag := tagged(t, key, b)
		for more := 1; len(key)+more <= api.MaxKey; more++ {
			if tagged(t, append(bytes.Clone(key), make([]byte, more)...), b) != tag {
				t.Errorf("another tag under %d more zero bytes", more)
			}
		}
		if tagged(t, append(bytes.Clone(key), 1), b) == tag || tagged(t, append([]byte{5}, key...), b) == tag {
			t.Errorf("the same tag under another key than % x", key)
		}
	}
}

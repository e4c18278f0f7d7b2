package digest_test

import (
	"bytes"
	"testing"

	"dunnage/api"
	"dunnage/digest"
)

// pattern returns n bytes in which neighbours, and blocks, differ.
func pattern(n int) []byte {
	b := make([]byte, n)
	x := uint32(n + 1)
	for i := range b {
		x = x*1664525 + 1013904223
		b[i] = byte(x >> 24)
	}
	return b
}

// wantErrno checks an error number.
func wantErrno(t *testing.T, what string, got, want api.Errno) {
	t.Helper()
	if got != want {
		t.Errorf("%s: error %d, want %d", what, got, want)
	}
}

// wantBytes checks bytes that were returned without an error.
func wantBytes(t *testing.T, what string, got []byte, e api.Errno, want []byte) {
	t.Helper()
	wantErrno(t, what, e, api.OK)
	if !bytes.Equal(got, want) {
		t.Errorf("%s: % x, want % x", what, got, want)
	}
}

// wantHash checks a hash.
func wantHash(t *testing.T, what string, got, want api.Hash) {
	t.Helper()
	if got.State != want.State || !bytes.Equal(got.Tail, want.Tail) || got.Length != want.Length {
		t.Errorf("%s: %v, want %v", what, got, want)
	}
}

// written returns the hash after some bytes.
func written(t *testing.T, h api.Hash, b []byte) api.Hash {
	t.Helper()
	next, e := digest.Write(h, b)
	wantErrno(t, "Write", e, api.OK)
	return next
}

// summed returns the digest of bytes that are not too many.
func summed(t *testing.T, b []byte) [32]byte {
	t.Helper()
	sum, e := digest.Sum(b)
	wantErrno(t, "Sum", e, api.OK)
	return sum
}

// tagged returns the tag under a key of a permitted length.
func tagged(t *testing.T, key, b []byte) [32]byte {
	t.Helper()
	tag, e := digest.Tag(key, b)
	wantErrno(t, "Tag", e, api.OK)
	return tag
}

package digest

import "dunnage/api"

// What the bytes of the extended key are combined with, for the inner and for the outer digest.
const (
	innerPad = 0x36
	outerPad = 0x5c
)

// Tag returns the HMAC-SHA256 tag of some bytes under a key.
func Tag(key, b []byte) ([32]byte, api.Errno) {
	if len(key) < 1 || len(key) > api.MaxKey {
		return [32]byte{}, api.ErrArg
	}
	inner, e := keyed(key, innerPad, b)
	if e != api.OK {
		return [32]byte{}, e
	}
	return keyed(key, outerPad, inner[:])
}

// Verify reports whether a tag is that of some bytes under a key.
func Verify(key, b []byte, tag [32]byte) (bool, api.Errno) {
	want, e := Tag(key, b)
	if e != api.OK {
		return false, e
	}
	// All bytes are compared, so that the time does not tell how many of a wrong tag are right.
	var differences byte
	for i, x := range want {
		differences |= x ^ tag[i]
	}
	return differences == 0, api.OK
}

// keyed returns the digest of the extended key, with each byte combined with a pad, followed by some bytes.
func keyed(key []byte, pad byte, b []byte) ([32]byte, api.Errno) {
	var block [blockSize]byte
	copy(block[:], key)
	for i := range block {
		block[i] ^= pad
	}
	h, e := Write(Start(), block[:])
	if e != api.OK {
		return [32]byte{}, e
	}
	h, e = Write(h, b)
	if e != api.OK {
		return [32]byte{}, e
	}
	return Finish(h)
}

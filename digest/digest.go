// Package digest is layer 1: numbers as bytes, SHA-256, HMAC-SHA256, and hexadecimal text; see shared/doc/01-digest.md.
package digest

import (
	"math/bits"

	"dunnage/api"
)

// blockSize is the number of bytes that one compression takes.
const blockSize = 64

// lengthSize is the number of bytes in which the last block ends with the length.
const lengthSize = 8

// firstState is the state of the hash of no bytes.
var firstState = [8]uint32{
	0x6a09e667, 0xbb67ae85, 0x3c6ef372, 0xa54ff53a, 0x510e527f, 0x9b05688c, 0x1f83d9ab, 0x5be0cd19,
}

// roundConstants are the first 32 bits of the fractional parts of the cube roots of the first 64 primes.
var roundConstants = [64]uint32{
	0x428a2f98, 0x71374491, 0xb5c0fbcf, 0xe9b5dba5, 0x3956c25b, 0x59f111f1, 0x923f82a4, 0xab1c5ed5,
	0xd807aa98, 0x12835b01, 0x243185be, 0x550c7dc3, 0x72be5d74, 0x80deb1fe, 0x9bdc06a7, 0xc19bf174,
	0xe49b69c1, 0xefbe4786, 0x0fc19dc6, 0x240ca1cc, 0x2de92c6f, 0x4a7484aa, 0x5cb0a9dc, 0x76f988da,
	0x983e5152, 0xa831c66d, 0xb00327c8, 0xbf597fc7, 0xc6e00bf3, 0xd5a79147, 0x06ca6351, 0x14292967,
	0x27b70a85, 0x2e1b2138, 0x4d2c6dfc, 0x53380d13, 0x650a7354, 0x766a0abb, 0x81c2c92e, 0x92722c85,
	0xa2bfe8a1, 0xa81a664b, 0xc24b8b70, 0xc76c51a3, 0xd192e819, 0xd6990624, 0xf40e3585, 0x106aa070,
	0x19a4c116, 0x1e376c08, 0x2748774c, 0x34b0bcb5, 0x391c0cb3, 0x4ed8aa4a, 0x5b9cca4f, 0x682e6ff3,
	0x748f82ee, 0x78a5636f, 0x84c87814, 0x8cc70208, 0x90befffa, 0xa4506ceb, 0xbef9a3f7, 0xc67178f2,
}

// Start returns the hash of no bytes.
func Start() api.Hash { return api.Hash{State: firstState} }

// Check returns ErrBad unless a hash is valid.
func Check(h api.Hash) api.Errno {
	if h.Length > api.MaxInput || uint64(len(h.Tail)) != h.Length%blockSize {
		return api.ErrBad
	}
	return api.OK
}

// Write returns the hash after some more bytes.
func Write(h api.Hash, b []byte) (api.Hash, api.Errno) {
	if e := Check(h); e != api.OK {
		return api.Hash{}, e
	}
	if len(b) > api.MaxInput-int(h.Length) {
		return api.Hash{}, api.ErrMany
	}
	state, rest := absorb(h.State, join(h.Tail, b))
	return api.Hash{State: state, Tail: rest, Length: h.Length + uint64(len(b))}, api.OK
}

// Finish returns the digest of a hash.
func Finish(h api.Hash) ([32]byte, api.Errno) {
	if e := Check(h); e != api.OK {
		return [32]byte{}, e
	}
	state, _ := absorb(h.State, join(h.Tail, padding(h.Length)))
	var sum [32]byte
	for i, word := range state {
		for j := range 4 {
			sum[4*i+j] = byte(word >> (24 - 8*j))
		}
	}
	return sum, api.OK
}

// Compress returns the state after a block.
func Compress(state [8]uint32, block [64]byte) [8]uint32 {
	mixed := state
	mix := func(constant, word uint32) {
		a, b, c, d := mixed[0], mixed[1], mixed[2], mixed[3]
		e, f, g, h := mixed[4], mixed[5], mixed[6], mixed[7]
		t1 := h + (rotate(e, 6) ^ rotate(e, 11) ^ rotate(e, 25)) + (e&f ^ ^e&g) + constant + word
		t2 := (rotate(a, 2) ^ rotate(a, 13) ^ rotate(a, 22)) + (a&b ^ a&c ^ b&c)
		mixed = [8]uint32{t1 + t2, a, b, c, d + t1, e, f, g}
	}
	for i, word := range schedule(block) {
		mix(roundConstants[i], word)
	}
	for i, word := range state {
		mixed[i] += word
	}
	return mixed
}

// Sum returns the SHA-256 digest of some bytes.
func Sum(b []byte) ([32]byte, api.Errno) {
	h, e := Write(Start(), b)
	if e != api.OK {
		return [32]byte{}, e
	}
	return Finish(h)
}

// schedule returns the words w0 to w63 of a block.
func schedule(block [64]byte) [64]uint32 {
	var words [64]uint32
	early := func(x uint32) uint32 { return rotate(x, 7) ^ rotate(x, 18) ^ x>>3 }
	late := func(x uint32) uint32 { return rotate(x, 17) ^ rotate(x, 19) ^ x>>10 }
	for i, x := range block {
		words[i/4] = words[i/4]<<8 | uint32(x)
	}
	for i := 16; i < len(words); i++ {
		words[i] = words[i-16] + early(words[i-15]) + words[i-7] + late(words[i-2])
	}
	return words
}

// rotate returns a word rotated right by n bits.
func rotate(x uint32, n int) uint32 { return bits.RotateLeft32(x, -n) }

// absorb compresses the complete blocks of some bytes into a state, and returns the state and the bytes that are left.
func absorb(state [8]uint32, b []byte) ([8]uint32, []byte) {
	for len(b) >= blockSize {
		var block [blockSize]byte
		copy(block[:], b)
		state = Compress(state, block)
		b = b[blockSize:]
	}
	return state, b
}

// padding returns what follows the bytes of a message of some length before its last block is compressed.
func padding(length uint64) []byte {
	// Two blocks, not one, so that the difference is not negative when the length needs a further block.
	zeros := (2*blockSize - 1 - lengthSize - int(length%blockSize)) % blockSize
	b := make([]byte, 1+zeros)
	b[0] = 128
	return appendUint(b, 8*length, lengthSize)
}

// join returns pieces of bytes one after the other, in new memory: an append to a piece could write behind its end.
func join(pieces ...[]byte) []byte {
	var out []byte
	for _, piece := range pieces {
		out = append(out, piece...)
	}
	return out
}

package digest_test

import (
	"crypto/sha256"
	"encoding/hex"
	"math"
	"testing"

	"dunnage/api"
	"dunnage/digest"
)

var startState = [8]uint32{
	0x6a09e667, 0xbb67ae85, 0x3c6ef372, 0xa54ff53a, 0x510e527f, 0x9b05688c, 0x1f83d9ab, 0x5be0cd19,
}

// oddState is a state that no bytes are known for.
var oddState = [8]uint32{1, 0xffffffff, 0, 0x80000000, 5, 6, 7, 0xdeadbeef}

// P1.2: Start.
func TestStart(t *testing.T) {
	wantHash(t, "Start", digest.Start(), api.Hash{State: startState})
}

// P1.2: Check, and its error from Write and Finish.
func TestCheck(t *testing.T) {
	for _, h := range []api.Hash{
		{},
		{State: oddState},
		{State: oddState, Tail: []byte{}, Length: 64},
		{Tail: pattern(1), Length: 1},
		{Tail: pattern(63), Length: 63},
		{Tail: pattern(1), Length: 65},
		{Tail: pattern(63), Length: api.MaxInput - 1},
		{Length: api.MaxInput},
	} {
		wantErrno(t, "Check of a valid hash", digest.Check(h), api.OK)
		_, e := digest.Write(h, nil)
		wantErrno(t, "Write to a valid hash", e, api.OK)
		_, e = digest.Finish(h)
		wantErrno(t, "Finish of a valid hash", e, api.OK)
	}
	for _, h := range []api.Hash{
		{Length: 3},
		{Tail: pattern(1)},
		{Tail: pattern(64)},
		{Tail: pattern(64), Length: 64},
		{Tail: pattern(2), Length: 65},
		{Tail: pattern(62), Length: 63},
		{Tail: pattern(1), Length: api.MaxInput + 1},
		{Length: api.MaxInput + 64},
		{Length: 1 << 32},
		{Length: 1 << 63},
		{Tail: pattern(63), Length: math.MaxUint64},
	} {
		wantErrno(t, "Check of an invalid hash", digest.Check(h), api.ErrBad)
		got, e := digest.Write(h, make([]byte, api.MaxInput+1))
		wantErrno(t, "Write to an invalid hash", e, api.ErrBad)
		wantHash(t, "Write to an invalid hash", got, api.Hash{})
		sum, e := digest.Finish(h)
		wantErrno(t, "Finish of an invalid hash", e, api.ErrBad)
		if sum != [32]byte{} {
			t.Error("Finish returns a digest with an error")
		}
	}
}

// P1.2: Write.
func TestWrite(t *testing.T) {
	h := written(t, digest.Start(), []byte("abc"))
	wantHash(t, "abc", h, api.Hash{State: startState, Tail: []byte("abc"), Length: 3})
	b := pattern(200)
	one := digest.Compress(oddState, [64]byte(b[:64]))
	two := digest.Compress(one, [64]byte(b[64:128]))
	three := digest.Compress(two, [64]byte(b[128:192]))
	for _, x := range []struct {
		tail, more int
		state      [8]uint32
		left       int
	}{
		{0, 0, oddState, 0},
		{0, 63, oddState, 0},
		{63, 0, oddState, 0},
		{63, 1, one, 64},
		{0, 64, one, 64},
		{1, 63, one, 64},
		{10, 117, one, 64},
		{10, 118, two, 128},
		{0, 200, three, 192},
		{63, 137, three, 192},
	} {
		before := api.Hash{State: oddState, Tail: b[:x.tail], Length: uint64(640 + x.tail)}
		end := x.tail + x.more
		want := api.Hash{State: x.state, Tail: b[x.left:end], Length: uint64(640 + end)}
		wantHash(t, "Write", written(t, before, b[x.tail:end]), want)
	}
}

func TestWriteTooMany(t *testing.T) {
	for _, x := range []struct {
		before, more int
		want         api.Errno
	}{
		{0, api.MaxInput, api.OK},
		{0, api.MaxInput + 1, api.ErrMany},
		{1, api.MaxInput - 1, api.OK},
		{1, api.MaxInput, api.ErrMany},
		{api.MaxInput, 0, api.OK},
		{api.MaxInput, 1, api.ErrMany},
		{api.MaxInput - 1, 1, api.OK},
		{api.MaxInput - 1, 2, api.ErrMany},
	} {
		h, e := digest.Write(written(t, digest.Start(), pattern(x.before)), pattern(x.more))
		wantErrno(t, "Write", e, x.want)
		if e != api.OK {
			wantHash(t, "Write with an error", h, api.Hash{})
		} else if h.Length != uint64(x.before+x.more) {
			t.Errorf("%d and %d bytes: Length %d", x.before, x.more, h.Length)
		}
	}
}

// afterPadding returns a state after the tail and the padding of a computation, each word as 4 bytes.
func afterPadding(h api.Hash) (sum [32]byte) {
	b := append([]byte{}, h.Tail...)
	b = append(b, 128)
	for len(b)%64 != 56 {
		b = append(b, 0)
	}
	for shift := 56; shift >= 0; shift -= 8 {
		b = append(b, byte(8*h.Length>>shift))
	}
	state := h.State
	for ; len(b) > 0; b = b[64:] {
		state = digest.Compress(state, [64]byte(b[:64]))
	}
	for i, word := range state {
		copy(sum[4*i:], []byte{byte(word >> 24), byte(word >> 16), byte(word >> 8), byte(word)})
	}
	return sum
}

// P1.2: Finish, also of states that no bytes have led to.
func TestFinish(t *testing.T) {
	for _, state := range [][8]uint32{startState, oddState, {}} {
		for _, length := range []uint64{0, 1, 55, 56, 57, 63, 64, 119, 120, 640, 8191, 8192} {
			h := api.Hash{State: state, Tail: pattern(int(length % 64)), Length: length}
			got, e := digest.Finish(h)
			wantErrno(t, "Finish", e, api.OK)
			if got != afterPadding(h) {
				t.Errorf("Finish of %v: %x", h, got)
			}
		}
	}
}

// P1.2: Compress.
func TestCompress(t *testing.T) {
	// The padded message abc is the one block of the standard's first example.
	block := [64]byte{0: 'a', 1: 'b', 2: 'c', 3: 128, 63: 24}
	want := [8]uint32{
		0xba7816bf, 0x8f01cfea, 0x414140de, 0x5dae2223, 0xb00361a3, 0x96177a9c, 0xb410ff61, 0xf20015ad,
	}
	if got := digest.Compress(startState, block); got != want {
		t.Errorf("%08x, want %08x", got, want)
	}
	if digest.Compress(oddState, block) == want || digest.Compress(startState, [64]byte{}) == want {
		t.Error("another state or another block leads to the same state")
	}
}

// P1.3: Sum.
func TestSum(t *testing.T) {
	for text, want := range map[string]string{
		"":    "e3b0c44298fc1c149afbf4c8996fb92427ae41e4649b934ca495991b7852b855",
		"abc": "ba7816bf8f01cfea414140de5dae2223b00361a396177a9cb410ff61f20015ad",
		"abcdbcdecdefdefgefghfghighijhijkijkljklmklmnlmnomnopnopq": "248d6a61d20638b8e5c026930c3e6039a33ce45964ff2167f6ecedd419db06c1",
	} {
		sum := summed(t, []byte(text))
		if hex.EncodeToString(sum[:]) != want {
			t.Errorf("%q: %x", text, sum)
		}
	}
	for n := 0; n <= api.MaxInput; n++ {
		if n > 300 && n < api.MaxInput-130 && n%97 != 0 {
			continue
		}
		if b := pattern(n); summed(t, b) != sha256.Sum256(b) {
			t.Errorf("another digest of %d bytes", n)
		}
	}
}

func TestSumTooMany(t *testing.T) {
	for _, n := range []int{api.MaxInput + 1, api.MaxInput + 64, 1 << 20} {
		sum, e := digest.Sum(make([]byte, n))
		wantErrno(t, "Sum", e, api.ErrMany)
		if sum != [32]byte{} {
			t.Errorf("Sum of %d bytes returns a digest with an error", n)
		}
	}
}

// P1.6: bytes in pieces, however they are cut.
func TestPieces(t *testing.T) {
	b := pattern(200)
	whole := written(t, digest.Start(), b)
	for i := 0; i <= len(b); i++ {
		for j := i; j <= len(b); j += 7 {
			h := digest.Start()
			for _, piece := range [][]byte{b[:i], b[i:j], nil, b[j:]} {
				h = written(t, h, piece)
			}
			wantHash(t, "in pieces", h, whole)
		}
	}
	got, e := digest.Finish(whole)
	if e != api.OK || got != summed(t, b) {
		t.Errorf("Finish: %x, %d", got, e)
	}
}

func TestByteByByte(t *testing.T) {
	b := pattern(api.MaxInput)
	h := digest.Start()
	for i := range b {
		h = written(t, h, b[i:i+1])
		if i%61 != 0 && i < len(b)-66 {
			continue
		}
		wantHash(t, "byte by byte", h, written(t, digest.Start(), b[:i+1]))
		if got, e := digest.Finish(h); e != api.OK || got != summed(t, b[:i+1]) {
			t.Errorf("Finish after %d bytes: %x, %d", i+1, got, e)
		}
	}
}

// P1.6: the Sum is what Compress makes of the blocks.
func TestSumIsCompressedBlocks(t *testing.T) {
	for _, n := range []int{0, 1, 55, 56, 63, 64, 65, 119, 120, 1000, api.MaxInput} {
		b := pattern(n)
		h := api.Hash{State: startState, Length: uint64(n)}
		for ; len(b) >= 64; b = b[64:] {
			h.State = digest.Compress(h.State, [64]byte(b[:64]))
		}
		h.Tail = b
		if summed(t, pattern(n)) != afterPadding(h) {
			t.Errorf("another digest of %d bytes", n)
		}
	}
}

package digest_test

import (
	"bytes"
	"testing"

	"dunnage/api"
	"dunnage/digest"
)

// roomy returns n bytes, and the array behind them, which is larger.
func roomy(n int) (b, behind []byte) {
	behind = pattern(n + 300)
	return behind[:n:len(behind)], behind
}

// P1 (R3): arguments are only read, also behind their length.
func TestArgumentsAreOnlyRead(t *testing.T) {
	for _, n := range []int{0, 1, 20, 63, 64, 65, 150} {
		b, behind := roomy(n)
		key, behindKey := roomy(30)
		tail, behindTail := roomy(40)
		h := api.Hash{State: oddState, Tail: tail, Length: 40}
		digest.PutUint(b, 0x0102, 8)
		digest.TakeUint(b, 0, 8)
		digest.TakeBytes(b, 0, n)
		digest.Check(h)
		digest.Write(h, b)
		digest.Finish(h)
		digest.Sum(b)
		digest.Tag(key, b)
		digest.Verify(key, b, [32]byte{})
		digest.Hex(b)
		for _, x := range []struct {
			got  []byte
			size int
		}{{behind, n}, {behindKey, 30}, {behindTail, 40}} {
			if want, _ := roomy(x.size); !bytes.Equal(x.got, want[:cap(want)]) {
				t.Errorf("an argument was changed by calls with %d bytes", n)
			}
		}
	}
}

// wantOwnMemory checks that neither of two slices changes with the other one, also behind their lengths.
func wantOwnMemory(t *testing.T, what string, result, other []byte) {
	t.Helper()
	result, other = result[:cap(result)], other[:cap(other)]
	before := bytes.Clone(other)
	for i := range result {
		result[i] ^= 0xff
	}
	if !bytes.Equal(other, before) {
		t.Errorf("%s: the result shares memory", what)
	}
}

// P1 (R3): results are new memory.
func TestResultsAreNewMemory(t *testing.T) {
	for _, n := range []int{0, 5, 63} {
		b, _ := roomy(n)
		put, _ := digest.PutUint(b, 1, 1)
		wantOwnMemory(t, "PutUint", put, b)
		taken, _, _ := digest.TakeBytes(b, 0, n)
		wantOwnMemory(t, "TakeBytes", taken, b)
		h, _ := digest.Write(digest.Start(), b)
		wantOwnMemory(t, "Write of bytes", h.Tail, b)
		again, _ := digest.Write(h, nil)
		wantOwnMemory(t, "Write of nothing", again.Tail, h.Tail)
		more, _ := digest.Write(h, []byte{1})
		other, _ := digest.Write(h, []byte{2})
		wantOwnMemory(t, "two calls of Write", more.Tail, other.Tail)
	}
	whole, _ := roomy(150)
	h, _ := digest.Write(digest.Start(), whole)
	wantOwnMemory(t, "Write of blocks", h.Tail, whole)
}

// P1 (R3): nothing is kept from call to call.
func TestCallsAreIndependent(t *testing.T) {
	first := digest.Start()
	first.State[0]++
	digest.Write(first, pattern(100))
	digest.Compress(oddState, [64]byte(pattern(64)))
	digest.Tag(pattern(10), pattern(10))
	wantHash(t, "Start after other calls", digest.Start(), api.Hash{State: startState})
	b := pattern(100)
	h := written(t, digest.Start(), b)
	for _, more := range [][]byte{pattern(30), pattern(31)} {
		next := written(t, h, more)
		if sum, e := digest.Finish(next); e != api.OK || sum != summed(t, append(bytes.Clone(b), more...)) {
			t.Errorf("Finish: %x, %d", sum, e)
		}
	}
}

// P1 (R4): nil and empty slices are the same.
func TestNilAndEmpty(t *testing.T) {
	empty := []byte{}
	wantErrno(t, "Check", digest.Check(api.Hash{Tail: empty}), digest.Check(api.Hash{}))
	wantHash(t, "Write", written(t, api.Hash{Tail: empty}, empty), written(t, api.Hash{}, nil))
	if summed(t, empty) != summed(t, nil) || tagged(t, []byte{1}, empty) != tagged(t, []byte{1}, nil) {
		t.Error("an empty slice has another digest, or another tag, than nil")
	}
	_, e := digest.Tag(empty, nil)
	_, f := digest.Tag(nil, nil)
	if e != api.ErrArg || f != api.ErrArg {
		t.Errorf("Tag under an empty key: %d, %d", e, f)
	}
	put, e := digest.PutUint(nil, 3, 1)
	wantBytes(t, "PutUint", put, e, []byte{3})
	put, e = digest.PutUint(empty, 3, 1)
	wantBytes(t, "PutUint", put, e, []byte{3})
}

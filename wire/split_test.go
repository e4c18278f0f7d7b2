package wire_test

import (
	"bytes"
	"slices"
	"testing"

	"dunnage/api"
	"dunnage/wire"
)

// checkSplit checks what Split returns for some bytes.
func checkSplit(t *testing.T, what string, b []byte) {
	t.Helper()
	frames, rest, e := wire.Split(b)
	wantFrames, wantRest, wantE := specSplit(b)
	wantSplit(t, what, frames, rest, e, wantFrames, wantRest, wantE)
}

// P7.1: the examples.
func TestSplitExamples(t *testing.T) {
	for _, x := range []struct {
		b      []byte
		frames [][]byte
		rest   []byte
	}{
		{[]byte{0, 3, 7, 0, 2, 0, 0, 0, 5, 1}, [][]byte{{0, 3, 7}, {0, 2}, {0, 0}}, []byte{0, 5, 1}},
		{[]byte{0, 65, 0, 2, 0}, [][]byte{{0, 65}, {0, 2}}, []byte{0}},
		{nil, nil, nil},
		{[]byte{}, nil, nil},
		{[]byte{9}, nil, []byte{9}},
		{[]byte{0, 2}, [][]byte{{0, 2}}, nil},
		{[]byte{0, 1, 0}, [][]byte{{0, 1}}, []byte{0}},
		{[]byte{1, 3, 7}, [][]byte{{1, 3}}, []byte{7}},
		{[]byte{255, 255}, [][]byte{{255, 255}}, nil},
	} {
		frames, rest, e := wire.Split(x.b)
		wantSplit(t, "Split", frames, rest, e, x.frames, x.rest, api.OK)
	}
}

// P7.1: all lengths in front of fewer, of as many and of more bytes than they say.
func TestSplitOfAllLengths(t *testing.T) {
	for n := range 1 << 16 {
		b := append([]byte{byte(n >> 8), byte(n)}, counting(100, 70)...)
		checkSplit(t, "a length with 72 bytes", b)
	}
	for n := range 70 {
		b := slices.Concat([]byte{0, byte(n)}, counting(200, 62), []byte{0, 3, 1, 0, 2})
		for many := range b {
			checkSplit(t, "the beginning of a frame", b[:many])
		}
	}
}

// P7.1: no more than MaxBytes + MaxFrame bytes are split.
func TestSplitOfManyBytes(t *testing.T) {
	for _, many := range []int{4095, 4096, 4097, 4159, 4160} {
		for _, length := range []byte{0, 1, 2, 3, 63, 64, 65} {
			b := bytes.Repeat(append([]byte{0, length}, make([]byte, max(0, int(length)-2)%63)...), many)[:many]
			checkSplit(t, "many bytes", b)
		}
	}
	for _, many := range []int{4161, 4162, 8192, 1 << 16, 1<<16 + 1, 1 << 20} {
		frames, rest, e := wire.Split(make([]byte, many))
		wantSplit(t, "too many bytes", frames, rest, e, nil, nil, api.ErrMany)
	}
}

// streams returns bytes of all sorts that can be split.
func streams() [][]byte {
	var all [][]byte
	for seed := range 60 {
		draw := drawer(seed)
		all = append(all, drawnBytes(draw, draw(200)))
		var b []byte
		for range draw(12) {
			b = append(b, specFramed(drawnBytes(draw, draw(63)))...)
			if draw(4) == 0 {
				b = append(b, drawnBytes(draw, draw(4))...)
			}
		}
		all = append(all, b, b[:len(b)-min(len(b), draw(6))])
	}
	return all
}

// P7.1, P7.6: the pieces and the rest are the bytes, and have the sizes that they may have; the rest is split into nothing.
func TestPiecesAreTheBytes(t *testing.T) {
	pieces := 0
	for _, b := range streams() {
		checkSplit(t, "a stream", b)
		frames, rest, e := wire.Split(b)
		wantList(t, "the pieces and the rest", append(bytes.Join(frames, nil), rest...), e, b, api.OK)
		for _, frame := range frames {
			pieces++
			if len(frame) < 2 || len(frame) > 64 {
				t.Errorf("a piece has %d bytes", len(frame))
			}
		}
		if len(rest) >= 64 {
			t.Errorf("the rest has %d bytes", len(rest))
		}
		none, again, e := wire.Split(rest)
		wantSplit(t, "Split of the rest", none, again, e, nil, rest, api.OK)
	}
	if pieces < 1000 {
		t.Errorf("only %d pieces", pieces)
	}
}

// splitInPortions splits a stream that arrives in portions, which are drawn.
func splitInPortions(t *testing.T, b []byte, draw func(limit int) int, most int) (frames [][]byte, rest []byte) {
	t.Helper()
	for len(b) > 0 {
		many := min(len(b), draw(most+1))
		more, left, e := wire.Split(append(rest, b[:many]...))
		wantErrno(t, "Split of a portion", e, api.OK)
		frames, rest, b = append(frames, more...), left, b[many:]
	}
	return frames, rest
}

// P7.6: how a stream is cut into two portions does not matter.
func TestTwoPortions(t *testing.T) {
	for _, b := range streams() {
		wanted, wantRest, wantE := wire.Split(b)
		for cut := range len(b) + 1 {
			first, rest, e := wire.Split(b[:cut])
			wantErrno(t, "Split of the first portion", e, api.OK)
			second, rest, e := wire.Split(append(rest, b[cut:]...))
			wantSplit(t, "two portions", append(first, second...), rest, e, wanted, wantRest, wantE)
		}
	}
}

// P7.6: how a stream is cut into portions does not matter, also if it has more bytes than are split in one call.
func TestManyPortions(t *testing.T) {
	for seed, b := range streams() {
		draw := drawer(seed)
		for _, most := range []int{1, 2, 3, 10, 64, 100} {
			frames, rest := splitInPortions(t, b, draw, most)
			wanted, wantRest, _ := specSplit(b)
			wantSplit(t, "many portions", frames, rest, api.OK, wanted, wantRest, api.OK)
		}
	}
	long := slices.Concat(streams()...)
	wanted, wantRest := splitInPortions(t, long, func(int) int { return 1 }, 1)
	for _, most := range []int{10, 1000, 4096} {
		frames, rest := splitInPortions(t, long, drawer(most), most)
		wantSplit(t, "a long stream", frames, rest, api.OK, wanted, wantRest, api.OK)
	}
}

// P7.6: encoded requests, one after the other, are split into just these, however they are cut into portions.
func TestSplitOfRequests(t *testing.T) {
	requests := validRequests()
	for seed := range 20 {
		draw := drawer(seed)
		var wanted [][]byte
		for range draw(40) {
			wanted = append(wanted, encodedRequest(t, oneOf(draw, requests)))
		}
		b := bytes.Join(wanted, nil)
		frames, rest, e := wire.Split(b)
		wantSplit(t, "requests", frames, rest, e, wanted, nil, api.OK)
		frames, rest = splitInPortions(t, b, draw, 1+draw(100))
		wantSplit(t, "requests in portions", frames, rest, api.OK, wanted, nil, api.OK)
	}
	for _, r := range requests {
		frames, rest, e := wire.Split(encodedRequest(t, r))
		wantSplit(t, "a request", frames, rest, e, [][]byte{specRequest(r)}, nil, api.OK)
	}
}

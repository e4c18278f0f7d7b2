package digest_test

import (
	"bytes"
	"math"
	"testing"

	"dunnage/api"
	"dunnage/digest"
)

// P1.1: PutUint.
func TestPutUint(t *testing.T) {
	for _, x := range []struct {
		b    []byte
		n    uint64
		size int
		want []byte
	}{
		{[]byte{7}, 258, 2, []byte{7, 1, 2}},
		{nil, 0, 1, []byte{0}},
		{[]byte{}, 255, 1, []byte{255}},
		{nil, 256, 2, []byte{1, 0}},
		{[]byte{1, 2}, 5, 8, []byte{1, 2, 0, 0, 0, 0, 0, 0, 0, 5}},
		{nil, 0x01020304, 4, []byte{1, 2, 3, 4}},
		{nil, 1<<56 - 1, 7, []byte{255, 255, 255, 255, 255, 255, 255}},
		{nil, math.MaxUint64, 8, []byte{255, 255, 255, 255, 255, 255, 255, 255}},
	} {
		got, e := digest.PutUint(x.b, x.n, x.size)
		wantBytes(t, "PutUint", got, e, x.want)
	}
}

func TestPutUintOfEachSize(t *testing.T) {
	for size := 1; size <= 8; size++ {
		greatest := uint64(math.MaxUint64) >> (64 - 8*size)
		got, e := digest.PutUint([]byte{9}, greatest, size)
		wantBytes(t, "greatest number", got, e, append([]byte{9}, bytes.Repeat([]byte{255}, size)...))
		if size == 8 {
			continue
		}
		for _, n := range []uint64{greatest + 1, math.MaxUint64} {
			got, e := digest.PutUint([]byte{9}, n, size)
			wantErrno(t, "number that does not fit", e, api.ErrArg)
			if len(got) != 0 {
				t.Errorf("PutUint(%d, %d) returns bytes with an error", n, size)
			}
		}
	}
}

func TestPutUintErrors(t *testing.T) {
	full := pattern(api.MaxInput)
	for _, x := range []struct {
		length int
		n      uint64
		size   int
		want   api.Errno
	}{
		{1, 256, 1, api.ErrArg},
		{1, 0, 0, api.ErrArg},
		{1, 0, 9, api.ErrArg},
		{1, 0, -1, api.ErrArg},
		{1, 0, math.MinInt, api.ErrArg},
		{1, 0, math.MaxInt, api.ErrArg},
		{1, 0, 64, api.ErrArg},
		{api.MaxInput, 0, 1, api.ErrMany},
		{api.MaxInput - 7, 0, 8, api.ErrMany},
		{api.MaxInput - 1, 0, 2, api.ErrMany},
		{api.MaxInput, 256, 1, api.ErrArg},
		{api.MaxInput, 0, 9, api.ErrArg},
	} {
		got, e := digest.PutUint(full[:x.length], x.n, x.size)
		wantErrno(t, "PutUint", e, x.want)
		if len(got) != 0 {
			t.Errorf("PutUint(%d bytes, %d, %d) returns bytes with an error", x.length, x.n, x.size)
		}
	}
	got, e := digest.PutUint(full[:api.MaxInput-8], 1, 8)
	wantBytes(t, "just MaxInput bytes", got, e, append(bytes.Clone(full[:api.MaxInput-8]), 0, 0, 0, 0, 0, 0, 0, 1))
	_, e = digest.PutUint(pattern(api.MaxInput+10), 1, 1)
	wantErrno(t, "more than MaxInput bytes before", e, api.ErrMany)
}

// P1.1: TakeUint.
func TestTakeUint(t *testing.T) {
	b := []byte{7, 1, 2, 255, 255, 255, 255, 255, 255, 255, 255}
	for _, x := range []struct {
		at, size int
		n        uint64
		next     int
		e        api.Errno
	}{
		{1, 2, 258, 3, api.OK},
		{0, 1, 7, 1, api.OK},
		{0, 3, 0x070102, 3, api.OK},
		{3, 8, math.MaxUint64, 11, api.OK},
		{10, 1, 255, 11, api.OK},
		{10, 2, 0, 0, api.ErrShort},
		{4, 8, 0, 0, api.ErrShort},
		{11, 1, 0, 0, api.ErrShort},
		{11, 8, 0, 0, api.ErrShort},
		{12, 1, 0, 0, api.ErrArg},
		{-1, 1, 0, 0, api.ErrArg},
		{0, 0, 0, 0, api.ErrArg},
		{0, 9, 0, 0, api.ErrArg},
		{11, 9, 0, 0, api.ErrArg},
		{0, -1, 0, 0, api.ErrArg},
		{math.MaxInt, 8, 0, 0, api.ErrArg},
		{math.MinInt, 8, 0, 0, api.ErrArg},
		{0, math.MaxInt, 0, 0, api.ErrArg},
		{0, math.MinInt, 0, 0, api.ErrArg},
	} {
		n, next, e := digest.TakeUint(b, x.at, x.size)
		if n != x.n || next != x.next || e != x.e {
			t.Errorf("TakeUint(%d, %d): %d, %d, %d, want %d, %d, %d", x.at, x.size, n, next, e, x.n, x.next, x.e)
		}
	}
	_, _, e := digest.TakeUint(nil, 0, 1)
	wantErrno(t, "TakeUint of no bytes", e, api.ErrShort)
	_, _, e = digest.TakeUint([]byte{7, 1, 2}, 4, 2)
	wantErrno(t, "TakeUint behind the end", e, api.ErrArg)
}

// P1.1: TakeBytes.
func TestTakeBytes(t *testing.T) {
	b := []byte{7, 1, 2}
	for _, x := range []struct {
		at, n int
		want  []byte
		next  int
		e     api.Errno
	}{
		{1, 2, []byte{1, 2}, 3, api.OK},
		{0, 3, []byte{7, 1, 2}, 3, api.OK},
		{0, 1, []byte{7}, 1, api.OK},
		{1, 0, nil, 1, api.OK},
		{3, 0, nil, 3, api.OK},
		{3, 1, nil, 0, api.ErrShort},
		{2, 2, nil, 0, api.ErrShort},
		{0, 4, nil, 0, api.ErrShort},
		{1, math.MaxInt, nil, 0, api.ErrShort},
		{3, math.MaxInt, nil, 0, api.ErrShort},
		{4, 0, nil, 0, api.ErrArg},
		{-1, 1, nil, 0, api.ErrArg},
		{0, -1, nil, 0, api.ErrArg},
		{3, -1, nil, 0, api.ErrArg},
		{math.MaxInt, math.MaxInt, nil, 0, api.ErrArg},
		{math.MinInt, math.MaxInt, nil, 0, api.ErrArg},
		{0, math.MinInt, nil, 0, api.ErrArg},
	} {
		out, next, e := digest.TakeBytes(b, x.at, x.n)
		if !bytes.Equal(out, x.want) || next != x.next || e != x.e {
			t.Errorf("TakeBytes(%d, %d): % x, %d, %d, want % x, %d, %d", x.at, x.n, out, next, e, x.want, x.next, x.e)
		}
	}
	out, next, e := digest.TakeBytes(nil, 0, 0)
	if len(out) != 0 || next != 0 || e != api.OK {
		t.Errorf("TakeBytes of nothing: % x, %d, %d", out, next, e)
	}
	long := pattern(api.MaxInput + 5)
	out, next, e = digest.TakeBytes(long, 2, api.MaxInput+3)
	wantBytes(t, "more than MaxInput bytes", out, e, long[2:])
	if next != len(long) {
		t.Errorf("next is %d, want %d", next, len(long))
	}
}

// The capacity of a slice has no bytes to take.
func TestTakeEndsWithTheLength(t *testing.T) {
	b := pattern(20)[:4]
	_, _, e := digest.TakeUint(b, 1, 4)
	wantErrno(t, "TakeUint", e, api.ErrShort)
	_, _, e = digest.TakeBytes(b, 0, 5)
	wantErrno(t, "TakeBytes", e, api.ErrShort)
}

// sampleNumbers returns numbers that fit a size, in ascending order.
func sampleNumbers(size int) []uint64 {
	numbers := []uint64{0, 1, 127, 128, 254, 255}
	for k := 2; k <= size; k++ {
		low := uint64(1) << (8*k - 8)
		numbers = append(numbers, low, low+1, low<<7-1, low<<7, low*255+low-1)
	}
	return numbers
}

// P1.5: what was put is taken again, whatever is around it.
func TestPutThenTake(t *testing.T) {
	for size := 1; size <= 8; size++ {
		for _, n := range sampleNumbers(size) {
			for _, before := range []int{0, 1, 9} {
				b, e := digest.PutUint(pattern(before), n, size)
				wantErrno(t, "PutUint", e, api.OK)
				if len(b) != before+size || !bytes.Equal(b[:before], pattern(before)) {
					t.Errorf("PutUint changed what is before the number: % x", b)
				}
				got, next, e := digest.TakeUint(append(b, pattern(5)...), before, size)
				if got != n || next != before+size || e != api.OK {
					t.Errorf("%d in %d bytes after %d: %d, %d, %d", n, size, before, got, next, e)
				}
			}
		}
	}
}

// P1.5: greater numbers have greater bytes.
func TestOrderOfNumbers(t *testing.T) {
	for size := 1; size <= 8; size++ {
		numbers := sampleNumbers(size)
		for i, m := range numbers {
			for j, n := range numbers {
				a, _ := digest.PutUint(nil, m, size)
				b, _ := digest.PutUint(nil, n, size)
				if (bytes.Compare(a, b) < 0) != (m < n) || (bytes.Compare(a, b) == 0) != (i == j) {
					t.Errorf("%d and %d in %d bytes: % x, % x", m, n, size, a, b)
				}
			}
		}
	}
}

// takeFields takes a number in 2 bytes, 3 bytes, a number in 8 bytes and one in 1 byte, and counts those that were taken.
func takeFields(b []byte) (numbers []uint64, out []byte, taken int, e api.Errno) {
	first, at, e := digest.TakeUint(b, 0, 2)
	if e != api.OK {
		return numbers, out, 0, e
	}
	numbers = append(numbers, first)
	out, at, e = digest.TakeBytes(b, at, 3)
	if e != api.OK {
		return numbers, nil, 1, e
	}
	for i, size := range []int{8, 1} {
		var n uint64
		n, at, e = digest.TakeUint(b, at, size)
		if e != api.OK {
			return numbers, out, 2 + i, e
		}
		numbers = append(numbers, n)
	}
	return numbers, out, 4, api.OK
}

// P1.5: fields one after the other, and bytes that end within one of them.
func TestFieldsInOrder(t *testing.T) {
	b, _ := digest.PutUint(nil, 513, 2)
	b = append(b, 10, 20, 30)
	b, _ = digest.PutUint(b, math.MaxUint64-1, 8)
	b, _ = digest.PutUint(b, 77, 1)
	numbers, out, taken, e := takeFields(b)
	wantErrno(t, "all fields", e, api.OK)
	if taken != 4 || len(numbers) != 3 || numbers[0] != 513 || numbers[1] != math.MaxUint64-1 || numbers[2] != 77 {
		t.Errorf("%d fields, numbers %v", taken, numbers)
	}
	wantBytes(t, "the bytes between", out, e, []byte{10, 20, 30})
	ends := []int{2, 5, 13, 14}
	for cut := range b {
		whole := 0
		for whole < len(ends) && ends[whole] <= cut {
			whole++
		}
		_, _, taken, e := takeFields(b[:cut])
		wantErrno(t, "bytes that end early", e, api.ErrShort)
		if taken != whole {
			t.Errorf("%d bytes: %d fields, want %d", cut, taken, whole)
		}
	}
}

package digest

import "dunnage/api"

// maxSize is the number of bytes of the largest numbers.
const maxSize = 8

// PutUint appends a number in some bytes.
func PutUint(b []byte, n uint64, size int) ([]byte, api.Errno) {
	// A shift by all 64 bits leaves 0, so that each number fits 8 bytes.
	if size < 1 || size > maxSize || n>>(8*size) != 0 {
		return nil, api.ErrArg
	}
	if len(b) > api.MaxInput-size {
		return nil, api.ErrMany
	}
	return appendUint(join(b), n, size), api.OK
}

// TakeUint returns the number in some bytes, and the index after them.
func TakeUint(b []byte, at, size int) (n uint64, next int, e api.Errno) {
	if size < 1 || size > maxSize {
		return 0, 0, api.ErrArg
	}
	field, next, e := TakeBytes(b, at, size)
	if e != api.OK {
		return 0, 0, e
	}
	for _, x := range field {
		n = n<<8 | uint64(x)
	}
	return n, next, api.OK
}

// TakeBytes returns some bytes, and the index after them.
func TakeBytes(b []byte, at, n int) (out []byte, next int, e api.Errno) {
	if at < 0 || at > len(b) || n < 0 {
		return nil, 0, api.ErrArg
	}
	// at + n could overflow.
	if n > len(b)-at {
		return nil, 0, api.ErrShort
	}
	return join(b[at : at+n]), at + n, api.OK
}

// appendUint appends a number to bytes that the caller owns.
func appendUint(b []byte, n uint64, size int) []byte {
	for i := size - 1; i >= 0; i-- {
		b = append(b, byte(n>>(8*i)))
	}
	return b
}

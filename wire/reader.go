package wire

import (
	"dunnage/api"
	"dunnage/auth"
	"dunnage/digest"
)

// reader reads the fields of an encoding one after the other.
type reader struct {
	bytes []byte
	at    int
}

// decoded returns what a function reads out of bytes, after their length and up to the last one: ErrShort if they are fewer than an encoding has at least, ErrForm if they are no encoding.
func decoded[T any](b []byte, least int, read func(in *reader) T) (value T, e api.Errno) {
	defer func() {
		if found := recover(); found != nil {
			var none T
			// Only require panics here: anything else would be a fault of the program, and is not hidden.
			value, e = none, found.(api.Errno)
		}
	}()
	require(len(b) >= least, api.ErrShort)
	in := &reader{bytes: b}
	require(in.uint(lengthSize) == uint64(len(b)), api.ErrForm)
	value = read(in)
	require(in.at == len(b), api.ErrForm)
	return value, api.OK
}

// require passes an error up to decoded unless a condition holds.
func require(holds bool, e api.Errno) {
	if !holds {
		panic(e)
	}
}

// uint reads a number of some bytes.
func (in *reader) uint(size int) uint64 {
	n, next, e := digest.TakeUint(in.bytes, in.at, size)
	require(e == api.OK, api.ErrForm)
	in.at = next
	return n
}

// take reads some bytes.
func (in *reader) take(many int) []byte {
	b, next, e := digest.TakeBytes(in.bytes, in.at, many)
	require(e == api.OK, api.ErrForm)
	in.at = next
	return b
}

// kind reads the kind of a request, a reply or a record.
func (in *reader) kind() uint8 { return uint8(in.uint(kindSize)) }

// code reads the code of a reply or a record.
func (in *reader) code() api.Errno { return api.Errno(in.uint(codeSize)) }

// token reads a token.
func (in *reader) token() api.Token {
	t, e := auth.Decode(in.take(api.TokenBytes))
	require(e == api.OK, api.ErrForm)
	return t
}

// link reads a link.
func (in *reader) link() (link [linkSize]byte) {
	copy(link[:], in.take(linkSize))
	return link
}

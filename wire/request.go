package wire

import (
	"dunnage/api"
	"dunnage/auth"
)

// CheckRequest returns ErrBad unless a request is valid.
func CheckRequest(r api.Request) api.Errno {
	if r.Kind < api.KindSubmit || r.Kind > api.KindRevoke {
		return api.ErrBad
	}
	x := requestBody(r)
	if !x.isValid() || requestWith(r.Kind, r.Token, x) != r {
		return api.ErrBad
	}
	return api.OK
}

// EncodeRequest returns the encoding of a request.
func EncodeRequest(r api.Request) ([]byte, api.Errno) {
	if e := CheckRequest(r); e != api.OK {
		return nil, e
	}
	b := put(nil, uint64(r.Kind), kindSize)
	b = append(b, auth.Encode(r.Token)...)
	return framed(requestBody(r).appendTo(b)), api.OK
}

// DecodeRequest returns the request of an encoding.
func DecodeRequest(b []byte) (api.Request, api.Errno) {
	return decoded(b, lengthSize+kindSize, (*reader).request)
}

// request reads a valid request.
func (in *reader) request() api.Request {
	kind := in.kind()
	token := in.token()
	x := requestBody(api.Request{Kind: kind}).readFrom(in)
	r := requestWith(kind, token, x)
	require(CheckRequest(r) == api.OK, api.ErrForm)
	return r
}

// requestBody returns the body of a request. One of another kind has none of its fields.
func requestBody(r api.Request) body {
	switch r.Kind {
	case api.KindSubmit:
		return spots{r.Pick, r.Drop}
	case api.KindCancel, api.KindQuery:
		return order{int(r.Number)}
	case api.KindLog, api.KindRevoke:
		return number{r.Number}
	}
	return nothing{}
}

// requestWith returns the request with a body.
func requestWith(kind uint8, token api.Token, x body) api.Request {
	r := api.Request{Kind: kind, Token: token}
	switch x := x.(type) {
	case spots:
		r.Pick, r.Drop = x.pick, x.drop
	case order:
		r.Number = uint32(x.id)
	case number:
		r.Number = x.n
	}
	return r
}

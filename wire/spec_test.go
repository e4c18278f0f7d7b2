package wire_test

import (
	"bytes"
	"crypto/sha256"
	"encoding/binary"
	"slices"

	"dunnage/api"
)

// The functions of this file restate the chapter's definitions as literally as possible.

// specSplit returns what Split returns.
func specSplit(b []byte) (frames [][]byte, rest []byte, e api.Errno) {
	if len(b) > 4160 {
		return nil, nil, api.ErrMany
	}
	for len(b) >= 2 {
		n := 256*int(b[0]) + int(b[1])
		if n < 2 || n > 64 {
			n = 2
		}
		if len(b) < n {
			break
		}
		frames = append(frames, b[:n])
		b = b[n:]
	}
	return frames, b, api.OK
}

// specFramed returns bytes with their length in front.
func specFramed(content []byte) []byte {
	return slices.Concat(binary.BigEndian.AppendUint16(nil, uint16(2+len(content))), content)
}

// specToken returns the encoding of a token.
func specToken(t api.Token) []byte {
	b := []byte{t.Tenant, t.Role}
	b = binary.BigEndian.AppendUint64(b, t.Expiry)
	b = binary.BigEndian.AppendUint32(b, t.Serial)
	return append(b, t.Tag[:]...)
}

// specTokenOf returns the token of an encoding.
func specTokenOf(b []byte) api.Token {
	return api.Token{
		Tenant: b[0], Role: b[1], Expiry: binary.BigEndian.Uint64(b[2:10]), Serial: binary.BigEndian.Uint32(b[10:14]), Tag: [32]byte(b[14:46]),
	}
}

// specRequestIsValid reports whether a request is valid.
func specRequestIsValid(r api.Request) bool {
	noSpots := r.Pick == 0 && r.Drop == 0
	switch r.Kind {
	case 1: // Submit
		return r.Number == 0
	case 2, 3: // Cancel and Query
		return noSpots && r.Number <= 65535
	case 4: // Watch
		return noSpots && r.Number == 0
	case 5, 6: // Log and Revoke
		return noSpots
	}
	return false
}

// specRequest returns the encoding of a valid request.
func specRequest(r api.Request) []byte {
	b := slices.Concat([]byte{r.Kind}, specToken(r.Token))
	switch r.Kind {
	case 1:
		b = append(b, r.Pick, r.Drop)
	case 2, 3:
		b = binary.BigEndian.AppendUint16(b, uint16(r.Number))
	case 5, 6:
		b = binary.BigEndian.AppendUint32(b, r.Number)
	}
	return specFramed(b)
}

// specEncodeRequest returns what EncodeRequest returns.
func specEncodeRequest(r api.Request) ([]byte, api.Errno) {
	if !specRequestIsValid(r) {
		return nil, api.ErrBad
	}
	return specRequest(r), api.OK
}

// specDecodeRequest returns what DecodeRequest returns.
func specDecodeRequest(b []byte) (api.Request, api.Errno) {
	if len(b) < 3 {
		return api.Request{}, api.ErrShort
	}
	if len(b) < 49 {
		return api.Request{}, api.ErrForm
	}
	// The only request of which b may be the encoding.
	r := api.Request{Kind: b[2], Token: specTokenOf(b[3:49])}
	switch fields := b[49:]; len(fields) {
	case 2:
		if r.Kind == 1 {
			r.Pick, r.Drop = fields[0], fields[1]
		} else {
			r.Number = uint32(binary.BigEndian.Uint16(fields))
		}
	case 4:
		r.Number = binary.BigEndian.Uint32(fields)
	}
	if !specRequestIsValid(r) || !bytes.Equal(specRequest(r), b) {
		return api.Request{}, api.ErrForm
	}
	return r, api.OK
}

// specRecordIsValid reports whether a record is valid.
func specRecordIsValid(r api.Record) bool {
	return r.Tick <= 1<<62 && r.Kind <= 6 && r.Code >= 0 && r.Code <= 65535
}

// specSameReply reports whether two replies are the same.
func specSameReply(a, b api.Reply) bool {
	same := a.Kind == b.Kind && a.Code == b.Code && a.Tick == b.Tick && a.Order == b.Order && a.State == b.State
	same = same && a.Done == b.Done && a.Queued == b.Queued && a.Count == b.Count && a.Token == b.Token
	return same && slices.Equal(a.Robots, b.Robots) && slices.Equal(a.Records, b.Records)
}

// specHeadIsValid reports whether the kind, the code and the tick of a reply are valid.
func specHeadIsValid(r api.Reply) bool {
	if r.Kind > 6 && r.Kind != 16 && r.Kind != 17 && r.Kind != 18 || r.Code < 0 || r.Code > 65535 || r.Tick > 1<<62 {
		return false
	}
	return !(r.Kind == 0 && r.Code == 0) && !(r.Kind == 16 && r.Code != 0) && !(r.Kind == 17 && r.Code != 280)
}

// specSightIsValid reports whether a robot in telemetry is valid.
func specSightIsValid(s api.Sight) bool {
	return s.Place >= 0 && s.Place <= 63 && s.State <= 8 && s.Order >= 0 && s.Order <= 64
}

// specReplyIsValid reports whether a reply is valid: the fields that its kind uses are checked and then emptied, and all others have to be empty.
func specReplyIsValid(r api.Reply) bool {
	is, kind := specHeadIsValid(r), r.Kind
	if r.Code != 0 {
		kind = 0
	}
	r.Kind, r.Code, r.Tick = 0, 0, 0
	switch kind {
	case 1, 16:
		is = is && r.Order >= 0 && r.Order <= 65535
		r.Order = 0
	case 3:
		is = is && r.State >= 1 && r.State <= 5 && r.Done <= 1<<62
		r.State, r.Done = 0, 0
	case 4:
		is = is && len(r.Robots) <= 3 && r.Queued >= 0 && r.Queued <= 8
		is = is && !slices.ContainsFunc(r.Robots, func(s api.Sight) bool { return !specSightIsValid(s) })
		r.Robots, r.Queued = nil, 0
	case 5:
		is = is && len(r.Records) <= 32
		is = is && !slices.ContainsFunc(r.Records, func(r api.Record) bool { return !specRecordIsValid(r) })
		r.Count, r.Records = 0, nil
	case 18:
		r.Token = api.Token{}
	}
	return is && specSameReply(r, api.Reply{})
}

// specNote returns the tick, the kind and the code of a record in bytes.
func specNote(tick uint64, kind uint8, code api.Errno) []byte {
	b := append(binary.BigEndian.AppendUint64(nil, tick), kind)
	return binary.BigEndian.AppendUint16(b, uint16(code))
}

// specReply returns the encoding of a valid reply.
func specReply(r api.Reply) []byte {
	b := binary.BigEndian.AppendUint16([]byte{r.Kind}, uint16(r.Code))
	b = binary.BigEndian.AppendUint64(b, r.Tick)
	if r.Code != 0 {
		return specFramed(b)
	}
	switch r.Kind {
	case 1, 16:
		b = binary.BigEndian.AppendUint16(b, uint16(r.Order))
	case 3:
		b = binary.BigEndian.AppendUint64(append(b, r.State), r.Done)
	case 4:
		b = append(b, byte(len(r.Robots)))
		for _, s := range r.Robots {
			b = binary.BigEndian.AppendUint16(append(b, byte(s.Place), s.State), uint16(s.Order))
		}
		b = append(b, byte(r.Queued))
	case 5:
		b = append(binary.BigEndian.AppendUint32(b, r.Count), byte(len(r.Records)))
		for _, x := range r.Records {
			b = slices.Concat(b, specNote(x.Tick, x.Kind, x.Code), x.Link[:])
		}
	case 18:
		b = append(b, specToken(r.Token)...)
	}
	return specFramed(b)
}

// specEncodeReply returns what EncodeReply returns.
func specEncodeReply(r api.Reply) ([]byte, api.Errno) {
	if !specReplyIsValid(r) {
		return nil, api.ErrBad
	}
	return specReply(r), api.OK
}

// specCandidate returns the only reply of which 13 bytes or more may be the encoding.
func specCandidate(b []byte) api.Reply {
	r := api.Reply{Kind: b[2], Code: api.Errno(binary.BigEndian.Uint16(b[3:5])), Tick: binary.BigEndian.Uint64(b[5:13])}
	fields := b[13:]
	if r.Code != 0 {
		return r
	}
	switch n := len(fields); {
	case (r.Kind == 1 || r.Kind == 16) && n == 2:
		r.Order = int(binary.BigEndian.Uint16(fields))
	case r.Kind == 3 && n == 9:
		r.State, r.Done = fields[0], binary.BigEndian.Uint64(fields[1:])
	case r.Kind == 4 && n >= 2 && n == 2+4*int(fields[0]):
		for s := range slices.Chunk(fields[1:n-1], 4) {
			r.Robots = append(r.Robots, api.Sight{Place: int(s[0]), State: s[1], Order: int(binary.BigEndian.Uint16(s[2:]))})
		}
		r.Queued = int(fields[n-1])
	case r.Kind == 5 && n >= 5 && n == 5+43*int(fields[4]):
		r.Count = binary.BigEndian.Uint32(fields)
		for x := range slices.Chunk(fields[5:], 43) {
			code := api.Errno(binary.BigEndian.Uint16(x[9:11]))
			r.Records = append(r.Records, api.Record{Tick: binary.BigEndian.Uint64(x), Kind: x[8], Code: code, Link: [32]byte(x[11:])})
		}
	case r.Kind == 18 && n == 46:
		r.Token = specTokenOf(fields)
	}
	return r
}

// specDecodeReply returns what DecodeReply returns.
func specDecodeReply(b []byte) (api.Reply, api.Errno) {
	if len(b) < 13 {
		return api.Reply{}, api.ErrShort
	}
	r := specCandidate(b)
	if !specReplyIsValid(r) || !bytes.Equal(specReply(r), b) {
		return api.Reply{}, api.ErrForm
	}
	return r, api.OK
}

// specLink returns what Link returns.
func specLink(prev [32]byte, tick uint64, kind uint8, code api.Errno, b []byte) ([32]byte, api.Errno) {
	if !specRecordIsValid(api.Record{Tick: tick, Kind: kind, Code: code}) {
		return [32]byte{}, api.ErrArg
	}
	if len(b) > 64 {
		return [32]byte{}, api.ErrMany
	}
	frame := sha256.Sum256(b)
	return sha256.Sum256(slices.Concat(prev[:], specNote(tick, kind, code), frame[:])), api.OK
}

// specCheckLog returns what CheckLog returns.
func specCheckLog(l api.Log) api.Errno {
	if len(l.Records) != int(min(l.Count, 32)) {
		return api.ErrBad
	}
	var link [32]byte
	for _, r := range l.Records {
		if !specRecordIsValid(r) {
			return api.ErrBad
		}
		link = r.Link
	}
	if l.Link != link {
		return api.ErrBad
	}
	return api.OK
}

// specAppend returns what Append returns.
func specAppend(l api.Log, tick uint64, kind uint8, code api.Errno, b []byte) (api.Log, api.Errno) {
	if e := specCheckLog(l); e != api.OK {
		return api.Log{}, e
	}
	link, e := specLink(l.Link, tick, kind, code, b)
	if e != api.OK {
		return api.Log{}, e
	}
	if l.Count == 4294967295 {
		return api.Log{}, api.ErrFull
	}
	records := slices.Concat(l.Records, []api.Record{{Tick: tick, Kind: kind, Code: code, Link: link}})
	if len(records) == 33 {
		records = records[1:]
	}
	return api.Log{Count: l.Count + 1, Link: link, Records: records}, api.OK
}

// specSince returns what Since returns.
func specSince(l api.Log, first uint32) ([]api.Record, api.Errno) {
	if e := specCheckLog(l); e != api.OK {
		return nil, e
	}
	var since []api.Record
	for i, r := range l.Records {
		if int64(l.Count)-int64(len(l.Records))+int64(i) >= int64(first) {
			since = append(since, r)
		}
	}
	return since, api.OK
}

// specVerify returns what Verify returns.
func specVerify(prev [32]byte, l []api.Record, frames [][]byte) (int, api.Errno) {
	if len(l) > 32 {
		return 0, api.ErrMany
	}
	if len(frames) != len(l) {
		return 0, api.ErrArg
	}
	if slices.ContainsFunc(l, func(r api.Record) bool { return !specRecordIsValid(r) }) {
		return 0, api.ErrBad
	}
	if slices.ContainsFunc(frames, func(b []byte) bool { return len(b) > 64 }) {
		return 0, api.ErrMany
	}
	many := 0
	for many < len(l) {
		if link, _ := specLink(prev, l[many].Tick, l[many].Kind, l[many].Code, frames[many]); l[many].Link != link {
			break
		}
		prev = l[many].Link
		many++
	}
	return many, api.OK
}

package wire_test

import (
	"bytes"
	"slices"
	"testing"

	"dunnage/api"
	"dunnage/wire"
)

// roomy returns a list with the same elements, and the longer array behind it.
func roomy[T any](l []T, more ...T) (part, behind []T) {
	behind = append(slices.Clone(l), more...)
	return behind[:len(l)], behind
}

// roomyReply returns a reply whose slices have more capacity than length, and functions that tell whether they are as they were.
func roomyReply(r api.Reply) (roomyR api.Reply, isSame func() bool) {
	robots, allRobots := roomy(r.Robots, aSight(), api.Sight{Place: 99})
	records, allRecords := roomy(r.Records, api.Record{Kind: 99}, api.Record{Tick: 1})
	oldRobots, oldRecords := slices.Clone(allRobots), slices.Clone(allRecords)
	r.Robots, r.Records = robots, records
	return r, func() bool { return slices.Equal(allRobots, oldRobots) && slices.Equal(allRecords, oldRecords) }
}

// P1 (R3): the functions of streams, requests and replies only read their arguments, also behind their length, and what is there does not matter.
func TestArgumentsAreOnlyRead(t *testing.T) {
	for _, b := range streams() {
		part, behind := roomy(b, 0, 2, 0, 3, 9, 9)
		before := bytes.Clone(behind)
		checkSplit(t, "a stream with a capacity", part)
		checkDecodeRequest(t, "a stream with a capacity", part)
		checkDecodeReply(t, "a stream with a capacity", part)
		wantList(t, "the bytes after the calls", behind, api.OK, before, api.OK)
	}
	for _, r := range validRequests() {
		part, behind := roomy(specRequest(r), 7, 8, 9)
		before := bytes.Clone(behind)
		checkDecodeRequest(t, "a request with a capacity", part)
		wantList(t, "the request after the call", behind, api.OK, before, api.OK)
	}
	for _, r := range repliesOfKinds() {
		part, behind := roomy(specReply(r), 7, 8, 9)
		before := bytes.Clone(behind)
		checkDecodeReply(t, "a reply with a capacity", part)
		wantList(t, "the reply after the call", behind, api.OK, before, api.OK)
		roomyR, isSame := roomyReply(r)
		checkReply(t, roomyR)
		if !isSame() {
			t.Errorf("a call changed %v", r)
		}
	}
}

// P1 (R3): the functions of logs only read their arguments, also behind their length, and what is there does not matter.
func TestLogsAreOnlyRead(t *testing.T) {
	for _, l := range append(validLogs(t), badLogs()...) {
		records, behind := roomy(l.Records, api.Record{Kind: 99}, api.Record{Tick: 1}, api.Record{})
		frame, behindFrame := roomy([]byte{0, 3, 9}, 7, 8)
		before, beforeFrame := slices.Clone(behind), slices.Clone(behindFrame)
		plain := l
		l.Records = records
		after, e := wire.Append(l, 3, api.KindLog, 0, frame)
		wanted, wantE := specAppend(plain, 3, api.KindLog, 0, frame)
		wantLog(t, "Append", after, e, wanted, wantE)
		wantErrno(t, "CheckLog", wire.CheckLog(l), specCheckLog(plain))
		since, e := wire.Since(l, l.Count-min(l.Count, 3))
		wantedRecords, wantE := specSince(plain, l.Count-min(l.Count, 3))
		wantList(t, "Since", since, e, wantedRecords, wantE)
		frames, _ := roomy(slices.Repeat([][]byte{frame}, len(records)), []byte{1})
		many, e := wire.Verify([32]byte{}, records, frames)
		wantedMany, wantE := specVerify([32]byte{}, plain.Records, frames)
		want(t, "Verify", many, e, wantedMany, wantE)
		wantList(t, "the records after the calls", behind, api.OK, before, api.OK)
		wantList(t, "the frame after the calls", behindFrame, api.OK, beforeFrame, api.OK)
	}
}

// spoil changes all elements of a list, also behind its length.
func spoil[T any](l []T, to T) {
	l = l[:cap(l)]
	for i := range l {
		l[i] = to
	}
}

// P1 (R3): the pieces and the rest share no memory with the stream, nor with one another.
func TestPiecesAreNewMemory(t *testing.T) {
	for _, b := range streams() {
		stream, behind := roomy(b, 1, 2, 3)
		before := bytes.Clone(behind)
		frames, rest, e := wire.Split(stream)
		wanted, wantRest, wantE := specSplit(before[:len(b)])
		for i := range frames {
			wantSplit(t, "the other pieces", frames[i:], rest, e, wanted[i:], wantRest, wantE)
			spoil(frames[i], 0xee)
		}
		wantSplit(t, "the rest", nil, rest, e, nil, wantRest, wantE)
		spoil(rest, 0xee)
		wantList(t, "the stream", behind, api.OK, before, api.OK)
		for i := range frames {
			wantList(t, "a piece", frames[i], api.OK, bytes.Repeat([]byte{0xee}, len(wanted[i])), api.OK)
		}
	}
}

// P1 (R3): encodings and what is decoded share no memory with arguments, and are not kept.
func TestEncodingsAreNewMemory(t *testing.T) {
	for _, r := range validRequests() {
		first, second := encodedRequest(t, r), encodedRequest(t, r)
		spoil(first, 0xee)
		wantList(t, "the other encoding", second, api.OK, specRequest(r), api.OK)
		checkRequest(t, r)
	}
	for _, r := range repliesOfKinds() {
		roomyR, isSame := roomyReply(r)
		first, second := encodedReply(t, roomyR), encodedReply(t, roomyR)
		spoil(first, 0xee)
		wantList(t, "the other encoding", second, api.OK, specReply(r), api.OK)
		if !isSame() {
			t.Errorf("an encoding shares memory with %v", r)
		}
		one, e := wire.DecodeReply(second)
		wantErrno(t, "DecodeReply", e, api.OK)
		other, e := wire.DecodeReply(second)
		wantErrno(t, "DecodeReply", e, api.OK)
		spoil(one.Robots, api.Sight{Place: 5})
		spoil(one.Records, api.Record{Tick: 5})
		wantList(t, "the bytes", second, api.OK, specReply(r), api.OK)
		spoil(second, 0xee)
		wantReply(t, "what was decoded", other, api.OK, r, api.OK)
	}
}

// P1 (R3): logs and records share no memory with arguments; two logs that are made of one are independent of each other.
func TestLogsAreNewMemory(t *testing.T) {
	for _, l := range validLogs(t) {
		if l.Count == 1<<32-1 {
			continue
		}
		records, behind := roomy(l.Records, api.Record{Kind: 99}, api.Record{Tick: 1})
		before := slices.Clone(behind)
		l.Records = records
		first, e := wire.Append(l, 1, api.KindLog, 1, []byte{1})
		wantErrno(t, "Append", e, api.OK)
		second, e := wire.Append(l, 2, api.KindRevoke, 2, []byte{2})
		wantErrno(t, "Append", e, api.OK)
		wantedFirst, _ := specAppend(l, 1, api.KindLog, 1, []byte{1})
		wantedSecond, _ := specAppend(l, 2, api.KindRevoke, 2, []byte{2})
		wantLog(t, "the first log", first, api.OK, wantedFirst, api.OK)
		since, e := wire.Since(l, 0)
		wantErrno(t, "Since", e, api.OK)
		if first.Count < 1<<32-1 {
			third, e := wire.Append(first, 3, api.KindWatch, 3, []byte{3})
			wantErrno(t, "Append", e, api.OK)
			spoil(third.Records, api.Record{Kind: 77})
		}
		wantLog(t, "the first log", first, api.OK, wantedFirst, api.OK)
		spoil(first.Records, api.Record{Kind: 77})
		spoil(since, api.Record{Kind: 77})
		wantLog(t, "the second log", second, api.OK, wantedSecond, api.OK)
		wantList(t, "the records", behind, api.OK, before, api.OK)
	}
}

// P1 (R4): nil and empty slices are the same.
func TestNilAndEmpty(t *testing.T) {
	for _, r := range repliesOfKinds() {
		if len(r.Robots) == 0 && len(r.Records) == 0 {
			r.Robots, r.Records = nil, nil
			checkReply(t, r)
			r.Robots, r.Records = []api.Sight{}, []api.Record{}
			checkReply(t, r)
		}
	}
	for _, none := range [][]byte{nil, {}} {
		checkSplit(t, "no bytes", none)
		checkDecodeRequest(t, "no bytes", none)
		checkDecodeReply(t, "no bytes", none)
		link, e := wire.Link([32]byte{1}, 2, 3, 4, none)
		wanted, _ := specLink([32]byte{1}, 2, 3, 4, nil)
		want(t, "Link for no bytes", link, e, wanted, api.OK)
	}
	for _, records := range [][]api.Record{nil, {}} {
		wantErrno(t, "CheckLog", wire.CheckLog(api.Log{Records: records}), api.OK)
		since, e := wire.Since(api.Log{Records: records}, 0)
		wantList(t, "Since", since, e, nil, api.OK)
		for _, frames := range [][][]byte{nil, {}} {
			many, e := wire.Verify([32]byte{1}, records, frames)
			want(t, "Verify", many, e, 0, api.OK)
		}
	}
}

// P1 (R2, R7): no call panics or goes on for ever, whatever the bytes are, and errors have no results.
func TestAnyBytes(t *testing.T) {
	kinds := []byte{0, 1, 2, 3, 4, 5, 6, 7, 16, 17, 18, 255}
	for seed := range 3000 {
		draw := drawer(seed)
		b := drawnBytes(draw, draw(200))
		checkSplit(t, "any bytes", b)
		checkDecodeRequest(t, "any bytes", b)
		checkDecodeReply(t, "any bytes", b)
		if b = withLength(b); len(b) > 2 {
			b[2] = oneOf(draw, kinds)
		}
		checkDecodeRequest(t, "any bytes with their length", b)
		checkDecodeReply(t, "any bytes with their length", b)
		if len(b) > 13 {
			b[3], b[4], b[5] = 0, 0, 0
		}
		checkDecodeReply(t, "any bytes without a code", b)
	}
}

// P1 (R2, R5, R7): no call panics or goes on for ever, whatever the arguments are, and errors have no results.
func TestAnyArguments(t *testing.T) {
	fields := fieldsOfReplies()
	logs := append(validLogs(t), badLogs()...)
	for seed := range 4000 {
		draw := drawer(seed)
		r := api.Reply{Kind: oneOf(draw, someKinds), Code: oneOf(draw, someCodes), Tick: oneOf(draw, someTicks)}
		for range draw(4) {
			oneOf(draw, fields)(&r)
		}
		checkReply(t, r)
		checkRequest(t, api.Request{Kind: oneOf(draw, someKinds), Token: oneOf(draw, someTokens()), Pick: byte(draw(3)), Drop: byte(draw(3)), Number: uint32(r.Tick)})
		l, b := oneOf(draw, logs), drawnBytes(draw, draw(70))
		after, e := wire.Append(l, r.Tick, r.Kind, r.Code, b)
		wanted, wantE := specAppend(l, r.Tick, r.Kind, r.Code, b)
		wantLog(t, "Append", after, e, wanted, wantE)
		prev, frames := oneOf(draw, someLinks), slices.Repeat([][]byte{b}, draw(34))
		many, e := wire.Verify(prev, r.Records, frames)
		wantedMany, wantE := specVerify(prev, r.Records, frames)
		want(t, "Verify", many, e, wantedMany, wantE)
	}
	huge := make([]api.Record, 1<<20)
	checkReply(t, api.Reply{Kind: api.KindLog, Records: huge})
	checkReply(t, api.Reply{Kind: api.KindWatch, Robots: make([]api.Sight, 1<<20)})
	wantErrno(t, "CheckLog", wire.CheckLog(api.Log{Count: 1 << 20, Records: huge}), api.ErrBad)
	many, e := wire.Verify([32]byte{}, huge, make([][]byte, 1<<20))
	want(t, "Verify", many, e, 0, api.ErrMany)
}

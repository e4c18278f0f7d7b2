package wire_test

import (
	"fmt"
	"math"
	"slices"
	"testing"

	"dunnage/api"
	"dunnage/wire"
)

// someLinks are links.
var someLinks = [][32]byte{{}, {1}, {31: 1}, [32]byte(counting(7, 32))}

// someFrames returns bytes of all sorts, and too many of them.
func someFrames() [][]byte {
	all := [][]byte{nil, {}, {0}, {0, 2}, {0, 3, 9}, specRequest(api.Request{Kind: api.KindWatch})}
	for _, many := range []int{55, 56, 63, 64, 65, 66, 128, 8192, 8193, 1 << 16, 1<<16 + 1} {
		all = append(all, make([]byte, many), counting(3, many))
	}
	return all
}

// logWith returns a valid log, made without Append.
func logWith(count uint32) api.Log {
	l := api.Log{Count: count, Records: someRecords(int(min(count, 32)))}
	if count > 0 {
		l.Link = l.Records[len(l.Records)-1].Link
	}
	return l
}

// validLogs returns valid logs, made with Append or without it.
func validLogs(t *testing.T) []api.Log {
	t.Helper()
	all := []api.Log{{}, {Records: []api.Record{}}}
	for _, count := range []uint32{1, 2, 16, 30, 31, 32, 33, 34, 64, 255, 256, 1 << 16, 1<<32 - 33, 1<<32 - 32, 1<<32 - 2, math.MaxUint32} {
		all = append(all, logWith(count))
	}
	for _, many := range []int{1, 3, 31, 32, 33, 50} {
		h := history{}
		for i := range many {
			h.add(t, uint64(i), uint8(i%7), api.Errno(i), []byte{0, 3, byte(i)})
		}
		all = append(all, h.log)
	}
	return all
}

// badLogs returns logs that are not valid.
func badLogs() []api.Log {
	all := []api.Log{{Count: 1}, {Link: [32]byte{1}}, {Link: [32]byte{31: 1}}, {Count: 32}, {Count: math.MaxUint32}}
	for _, many := range []int{1, 2, 31, 32, 33, 34, 64, 255, 256, 257, 1 << 16} {
		records := someRecords(many)
		for _, count := range []int{0, 1, many - 1, many, many + 1, 32, 1 << 16, 1 << 31, math.MaxUint32} {
			if many != min(count, 32) {
				all = append(all, api.Log{Count: uint32(count), Link: records[many-1].Link, Records: records})
			}
		}
	}
	add := func(l api.Log, change func(l *api.Log)) {
		l.Records = slices.Clone(l.Records)
		change(&l)
		all = append(all, l)
	}
	for _, count := range []uint32{1, 5, 32, 33, math.MaxUint32} {
		l := logWith(count)
		for _, i := range []int{0, len(l.Records) / 2, len(l.Records) - 1} {
			for _, tick := range lateTicks {
				add(l, func(l *api.Log) { l.Records[i].Tick = tick })
			}
			for _, kind := range []uint8{7, 8, 16, 17, 18, 128, 255} {
				add(l, func(l *api.Log) { l.Records[i].Kind = kind })
			}
			for _, n := range hugeNumbers {
				add(l, func(l *api.Log) { l.Records[i].Code = api.Errno(n) })
			}
		}
		for i := range 32 {
			add(l, func(l *api.Log) { l.Link[i] ^= 4 })
			add(l, func(l *api.Log) { l.Records[len(l.Records)-1].Link[i] ^= 4 })
		}
		add(l, func(l *api.Log) { l.Link = [32]byte{} })
		if count > 1 {
			add(l, func(l *api.Log) { l.Link = l.Records[0].Link })
		}
	}
	return all
}

// P7.4: Link, for all sorts of arguments.
func TestLink(t *testing.T) {
	for _, prev := range someLinks {
		for _, tick := range someTicks {
			for _, kind := range someKinds {
				for _, code := range someCodes {
					b := []byte{0, 3, kind}
					link, e := wire.Link(prev, tick, kind, code, b)
					wanted, wantE := specLink(prev, tick, kind, code, b)
					want(t, "Link", link, e, wanted, wantE)
				}
			}
		}
		for _, b := range someFrames() {
			link, e := wire.Link(prev, 4, api.KindQuery, api.ErrHalted, b)
			wanted, wantE := specLink(prev, 4, api.KindQuery, api.ErrHalted, b)
			want(t, fmt.Sprintf("Link for %d bytes", len(b)), link, e, wanted, wantE)
			link, e = wire.Link(prev, api.MaxTick+1, api.KindQuery, api.ErrHalted, b)
			want(t, "Link at a late tick", link, e, [32]byte{}, api.ErrArg)
			link, e = wire.Link(prev, 4, 7, api.ErrHalted, b)
			want(t, "Link of a kind", link, e, [32]byte{}, api.ErrArg)
		}
	}
	for kind := range 256 {
		link, e := wire.Link([32]byte{}, 1, uint8(kind), 2, nil)
		wanted, wantE := specLink([32]byte{}, 1, uint8(kind), 2, nil)
		want(t, "Link", link, e, wanted, wantE)
	}
}

// P7.4: CheckLog.
func TestCheckLog(t *testing.T) {
	for _, l := range validLogs(t) {
		wantErrno(t, fmt.Sprintf("CheckLog of a log with the Count %d", l.Count), wire.CheckLog(l), api.OK)
	}
	for _, l := range badLogs() {
		wantErrno(t, fmt.Sprintf("CheckLog of a log with the Count %d and %d records", l.Count, len(l.Records)), wire.CheckLog(l), api.ErrBad)
	}
}

// P7.4: the examples.
func TestLogExamples(t *testing.T) {
	l, e := wire.Append(api.Log{}, 4, api.KindSubmit, api.OK, []byte{0, 2})
	link, _ := specLink([32]byte{}, 4, api.KindSubmit, api.OK, []byte{0, 2})
	wanted := api.Log{Count: 1, Link: link, Records: []api.Record{{Tick: 4, Kind: api.KindSubmit, Link: link}}}
	wantLog(t, "Append", l, e, wanted, api.OK)
	records, e := wire.Since(l, 0)
	wantList(t, "Since 0", records, e, wanted.Records, api.OK)
	records, e = wire.Since(l, 1)
	wantList(t, "Since 1", records, e, nil, api.OK)
	for _, x := range []struct {
		prev   [32]byte
		frames [][]byte
		many   int
		e      api.Errno
	}{
		{[32]byte{}, [][]byte{{0, 2}}, 1, api.OK},
		{[32]byte{}, [][]byte{{0, 3}}, 0, api.OK},
		{[32]byte{1}, [][]byte{{0, 2}}, 0, api.OK},
		{[32]byte{}, nil, 0, api.ErrArg},
	} {
		many, e := wire.Verify(x.prev, l.Records, x.frames)
		want(t, "Verify", many, e, x.many, x.e)
	}
}

// P7.4: Append, for all sorts of logs and arguments.
func TestAppend(t *testing.T) {
	check := func(l api.Log, tick uint64, kind uint8, code api.Errno, b []byte) {
		t.Helper()
		after, e := wire.Append(l, tick, kind, code, b)
		wanted, wantE := specAppend(l, tick, kind, code, b)
		wantLog(t, fmt.Sprintf("Append to the Count %d", l.Count), after, e, wanted, wantE)
	}
	for _, l := range validLogs(t) {
		for _, b := range someFrames() {
			check(l, 4, api.KindQuery, api.ErrNone, b)
		}
		for _, tick := range someTicks {
			check(l, tick, api.KindLog, api.OK, []byte{0, 2})
		}
		for _, kind := range someKinds {
			check(l, 5, kind, api.OK, []byte{0, 2})
		}
		for _, code := range someCodes {
			check(l, 5, api.KindNone, code, []byte{0, 2})
		}
	}
	for _, l := range badLogs() {
		check(l, 4, api.KindQuery, api.ErrNone, []byte{0, 2})
	}
}

// P7.4, R1: the errors of Append in their order.
func TestErrorsOfAppend(t *testing.T) {
	bad := logWith(math.MaxUint32)
	bad.Link[3]++
	long := make([]byte, 65)
	for _, x := range []struct {
		what string
		l    api.Log
		kind uint8
		b    []byte
		e    api.Errno
	}{
		{"all errors", bad, 7, long, api.ErrBad},
		{"a bad kind", logWith(math.MaxUint32), 7, long, api.ErrArg},
		{"a long frame", logWith(math.MaxUint32), 6, long, api.ErrMany},
		{"a full log", logWith(math.MaxUint32), 6, nil, api.ErrFull},
		{"the last record", logWith(math.MaxUint32 - 1), 6, nil, api.OK},
	} {
		l, e := wire.Append(x.l, 1, x.kind, 1, x.b)
		wanted, _ := specAppend(x.l, 1, x.kind, 1, x.b)
		wantLog(t, x.what, l, e, wanted, x.e)
	}
}

// P7.4: Since, for all sorts of logs and numbers.
func TestSince(t *testing.T) {
	for _, l := range append(validLogs(t), badLogs()...) {
		firsts := []uint32{0, 1, 2, 31, 32, 33, 1 << 31, math.MaxUint32 - 1, math.MaxUint32}
		for i := range uint32(36) {
			// Numbers around those of the records; below 0 they become large ones.
			firsts = append(firsts, l.Count-34+i)
		}
		for _, first := range firsts {
			records, e := wire.Since(l, first)
			wanted, wantE := specSince(l, first)
			wantList(t, fmt.Sprintf("Since %d of the Count %d", first, l.Count), records, e, wanted, wantE)
		}
	}
}

// history is a log with all that was ever added to it, and the frames.
type history struct {
	log    api.Log
	all    []api.Record
	frames [][]byte
}

// add adds a record.
func (h *history) add(t *testing.T, tick uint64, kind uint8, code api.Errno, b []byte) {
	t.Helper()
	l, e := wire.Append(h.log, tick, kind, code, b)
	wantErrno(t, "Append", e, api.OK)
	h.log = l
	h.all = append(h.all, api.Record{Tick: tick, Kind: kind, Code: code, Link: l.Link})
	h.frames = append(h.frames, b)
}

// addDrawn adds a record that is drawn.
func (h *history) addDrawn(t *testing.T, draw func(limit int) int) {
	t.Helper()
	h.add(t, uint64(draw(50)), uint8(draw(7)), api.Errno(draw(300)), drawnBytes(draw, draw(65)))
}

// kept returns the link before the first record that is kept, and the frames that were added with the records that are kept.
func (h *history) kept() (prev [32]byte, frames [][]byte) {
	first := len(h.all) - len(h.log.Records)
	if first > 0 {
		prev = h.all[first-1].Link
	}
	return prev, h.frames[first:]
}

// P7.8: what a log has after records were added.
func TestHistories(t *testing.T) {
	for seed := range 3 {
		draw, h := drawer(seed), history{}
		var link [32]byte
		for n := range 80 {
			h.addDrawn(t, draw)
			x := h.all[n]
			link, _ = specLink(link, x.Tick, x.Kind, x.Code, h.frames[n])
			if h.log.Count != uint32(n+1) || x.Link != link || h.log.Link != link {
				t.Errorf("after %d records: %v", n+1, h.log)
			}
			wantList(t, "Records", h.log.Records, wire.CheckLog(h.log), h.all[max(0, n+1-32):], api.OK)
			for first := range n + 3 {
				records, e := wire.Since(h.log, uint32(first))
				wantList(t, "Since", records, e, h.all[min(n+1, max(first, n+1-32)):], api.OK)
			}
			prev, frames := h.kept()
			many, e := wire.Verify(prev, h.log.Records, frames)
			want(t, "Verify", many, e, len(h.log.Records), api.OK)
		}
	}
}

// changes are changes of a record or its frame, after which the record's link is another one.
var changes = map[string]func(r *api.Record, b *[]byte){
	"the tick":           func(r *api.Record, b *[]byte) { r.Tick ^= 1 },
	"a high bit of it":   func(r *api.Record, b *[]byte) { r.Tick ^= 1 << 61 },
	"the kind":           func(r *api.Record, b *[]byte) { r.Kind = (r.Kind + 1) % 7 },
	"the code":           func(r *api.Record, b *[]byte) { r.Code ^= 256 },
	"the link":           func(r *api.Record, b *[]byte) { r.Link[0] ^= 128 },
	"the link's end":     func(r *api.Record, b *[]byte) { r.Link[31] ^= 1 },
	"a byte of a frame":  func(r *api.Record, b *[]byte) { *b = slices.Concat(*b, []byte{0})[:max(1, len(*b))]; (*b)[0] ^= 1 },
	"the frame's length": func(r *api.Record, b *[]byte) { *b = append([]byte{9}, *b...)[:min(len(*b)+1, 64)] },
}

// P7.5, P7.8: for other records or frames Verify returns the number of those before the first one whose link differs.
func TestVerifyOfOthers(t *testing.T) {
	for seed, total := range []int{1, 2, 10, 32, 33, 50} {
		draw, h := drawer(seed), history{}
		for range total {
			h.addDrawn(t, draw)
		}
		prev, frames := h.kept()
		for i := range h.log.Records {
			for what, change := range changes {
				records, others := slices.Clone(h.log.Records), slices.Clone(frames)
				change(&records[i], &others[i])
				change(&records[len(records)-1], &others[len(records)-1])
				many, e := wire.Verify(prev, records, others)
				wanted, wantE := specVerify(prev, records, others)
				want(t, "Verify of two others", many, e, wanted, wantE)
				if i < len(records)-1 {
					want(t, what, many, e, i, api.OK)
				}
			}
		}
		other := prev
		other[draw(32)]++
		many, e := wire.Verify(other, h.log.Records, frames)
		want(t, "another previous link", many, e, 0, api.OK)
	}
}

// P7.5: a record whose link is the right one for its changed fields ends the count at the next one, which was linked to it before.
func TestVerifyOfALinkedChange(t *testing.T) {
	draw, h := drawer(5), history{}
	for range 20 {
		h.addDrawn(t, draw)
	}
	for i := range 20 {
		records, prev := slices.Clone(h.all), [32]byte{}
		if i > 0 {
			prev = records[i-1].Link
		}
		records[i].Tick += 7
		records[i].Link, _ = specLink(prev, records[i].Tick, records[i].Kind, records[i].Code, h.frames[i])
		many, e := wire.Verify([32]byte{}, records, h.frames)
		want(t, "Verify", many, e, i+1, api.OK)
		many, e = wire.Verify(records[i].Link, records[i+1:], h.frames[i+1:])
		want(t, "Verify of the others", many, e, 0, api.OK)
		if i == 19 {
			break
		}
		many, e = wire.Verify(h.all[i].Link, records[i+1:], h.frames[i+1:])
		want(t, "Verify of the others after the right link", many, e, 19-i, api.OK)
	}
}

// P7.5: the errors of Verify in their order.
func TestErrorsOfVerify(t *testing.T) {
	frames := func(many, size int) [][]byte {
		all := make([][]byte, many)
		for i := range all {
			all[i] = make([]byte, 2)
		}
		if many > 0 {
			all[many-1] = make([]byte, size)
		}
		return all
	}
	bad := func(many int) []api.Record { return append(someRecords(many-1), api.Record{Kind: 7}) }
	for _, x := range []struct {
		what   string
		l      []api.Record
		frames [][]byte
		e      api.Errno
	}{
		{"33 records, all errors", bad(33), frames(32, 65), api.ErrMany},
		{"33 records", someRecords(33), frames(33, 2), api.ErrMany},
		{"many records", someRecords(1 << 12), frames(1<<12, 2), api.ErrMany},
		{"a frame more", bad(32), frames(33, 65), api.ErrArg},
		{"a frame less", bad(32), frames(31, 65), api.ErrArg},
		{"no frames", someRecords(32), nil, api.ErrArg},
		{"no records", nil, frames(1, 2), api.ErrArg},
		{"a bad record and a long frame", bad(32), frames(32, 65), api.ErrBad},
		{"a bad record", bad(1), frames(1, 2), api.ErrBad},
		{"a late record", []api.Record{{Tick: api.MaxTick + 1}}, frames(1, 2), api.ErrBad},
		{"a record with a code", []api.Record{{Code: 65536}}, frames(1, 2), api.ErrBad},
		{"a record with another code", []api.Record{{Code: -1}}, frames(1, 2), api.ErrBad},
		{"a long frame", someRecords(32), frames(32, 65), api.ErrMany},
		{"a very long frame", someRecords(1), frames(1, 1<<20), api.ErrMany},
		{"other links", someRecords(32), frames(32, 64), api.OK},
		{"nothing", nil, nil, api.OK},
	} {
		many, e := wire.Verify([32]byte{}, x.l, x.frames)
		want(t, x.what, many, e, 0, x.e)
	}
	for _, b := range someFrames() {
		r := api.Record{Tick: 4, Kind: 1}
		r.Link, _ = specLink([32]byte{9}, 4, 1, 0, b)
		many, e := wire.Verify([32]byte{9}, []api.Record{r}, [][]byte{b})
		wanted, wantE := specVerify([32]byte{9}, []api.Record{r}, [][]byte{b})
		want(t, fmt.Sprintf("a frame with %d bytes", len(b)), many, e, wanted, wantE)
	}
}

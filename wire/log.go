package wire

import (
	"math"

	"dunnage/api"
	"dunnage/digest"
)

// Link returns the link of a record after a previous link.
func Link(prev [32]byte, tick uint64, kind uint8, code api.Errno, b []byte) ([32]byte, api.Errno) {
	r := api.Record{Tick: tick, Kind: kind, Code: code}
	if !isRecord(r) {
		return [32]byte{}, api.ErrArg
	}
	if len(b) > api.MaxFrame {
		return [32]byte{}, api.ErrMany
	}
	return linkOf(prev, r, b), api.OK
}

// CheckLog returns ErrBad unless a log is valid.
func CheckLog(l api.Log) api.Errno {
	// The length is checked first, so that no long list is looked through.
	if uint64(len(l.Records)) != min(uint64(l.Count), api.MaxRecords) || !areRecords(l.Records) {
		return api.ErrBad
	}
	var link [32]byte
	if n := len(l.Records); n > 0 {
		link = l.Records[n-1].Link
	}
	if l.Link != link {
		return api.ErrBad
	}
	return api.OK
}

// Append returns a log with one record more.
func Append(l api.Log, tick uint64, kind uint8, code api.Errno, b []byte) (api.Log, api.Errno) {
	if e := CheckLog(l); e != api.OK {
		return api.Log{}, e
	}
	link, e := Link(l.Link, tick, kind, code, b)
	if e != api.OK {
		return api.Log{}, e
	}
	if l.Count == math.MaxUint32 {
		return api.Log{}, api.ErrFull
	}
	kept := lastRecords(l.Records, min(len(l.Records), api.MaxRecords-1))
	added := api.Record{Tick: tick, Kind: kind, Code: code, Link: link}
	return api.Log{Count: l.Count + 1, Link: link, Records: append(kept, added)}, api.OK
}

// Since returns the records of a log from a number on.
func Since(l api.Log, first uint32) ([]api.Record, api.Errno) {
	if e := CheckLog(l); e != api.OK {
		return nil, e
	}
	if first >= l.Count {
		return nil, api.OK
	}
	many := min(uint64(l.Count-first), uint64(len(l.Records)))
	return append([]api.Record(nil), lastRecords(l.Records, int(many))...), api.OK
}

// Verify returns how many records have the right link.
func Verify(prev [32]byte, l []api.Record, frames [][]byte) (int, api.Errno) {
	if len(l) > api.MaxRecords {
		return 0, api.ErrMany
	}
	if len(frames) != len(l) {
		return 0, api.ErrArg
	}
	if !areRecords(l) {
		return 0, api.ErrBad
	}
	for _, b := range frames {
		if len(b) > api.MaxFrame {
			return 0, api.ErrMany
		}
	}
	for i, r := range l {
		if r.Link != linkOf(prev, r, frames[i]) {
			return i, api.OK
		}
		prev = r.Link
	}
	return len(l), api.OK
}

// isRecord reports whether a record is valid.
func isRecord(r api.Record) bool {
	return r.Tick <= api.MaxTick && r.Kind <= api.KindRevoke && upTo(maxCode, int(r.Code))
}

// areRecords reports whether all records are valid.
func areRecords(l []api.Record) bool {
	for _, r := range l {
		if !isRecord(r) {
			return false
		}
	}
	return true
}

// lastRecords cuts the last records out of a list. The capacity ends with them, so that what is appended goes to new memory.
func lastRecords(l []api.Record, many int) []api.Record {
	return l[len(l)-many : len(l) : len(l)]
}

// linkOf returns the link of a valid record after a previous link, for a frame that is not too long.
func linkOf(prev [32]byte, r api.Record, b []byte) [32]byte {
	// Both are far fewer than MaxInput bytes, so that there is no error.
	frame, _ := digest.Sum(b)
	link, _ := digest.Sum(append(appendNote(prev[:], r), frame[:]...))
	return link
}

// appendNote appends what a record notes of a request, that is all but its link.
func appendNote(b []byte, r api.Record) []byte {
	b = put(b, r.Tick, tickSize)
	b = put(b, uint64(r.Kind), kindSize)
	return put(b, uint64(r.Code), codeSize)
}

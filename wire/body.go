package wire

import (
	"dunnage/api"
	"dunnage/auth"
)

// body is the part of a request or a reply that depends on its kind.
type body interface {
	// isValid reports whether the fields are within their ranges.
	isValid() bool
	// appendTo appends the encoding of a valid body to bytes.
	appendTo(b []byte) []byte
	// readFrom returns a body of the same type, valid or not, that is read.
	readFrom(in *reader) body
}

// nothing is the body of requests and replies without further fields.
type nothing struct{}

func (x nothing) isValid() bool            { return true }
func (x nothing) appendTo(b []byte) []byte { return b }
func (x nothing) readFrom(in *reader) body { return x }

// spots is the body of a request to submit an order.
type spots struct{ pick, drop uint8 }

func (x spots) isValid() bool { return true }

func (x spots) appendTo(b []byte) []byte {
	b = put(b, uint64(x.pick), spotSize)
	return put(b, uint64(x.drop), spotSize)
}

func (x spots) readFrom(in *reader) body {
	x.pick = uint8(in.uint(spotSize))
	x.drop = uint8(in.uint(spotSize))
	return x
}

// order is the body of requests and replies that name an order.
type order struct{ id int }

func (x order) isValid() bool { return upTo(maxOrder, x.id) }

func (x order) appendTo(b []byte) []byte { return put(b, uint64(x.id), orderSize) }

func (x order) readFrom(in *reader) body {
	x.id = int(in.uint(orderSize))
	return x
}

// number is the body of requests that name a record or a token.
type number struct{ n uint32 }

func (x number) isValid() bool { return true }

func (x number) appendTo(b []byte) []byte { return put(b, uint64(x.n), numberSize) }

func (x number) readFrom(in *reader) body {
	x.n = uint32(in.uint(numberSize))
	return x
}

// progress is the body of a reply about an order.
type progress struct {
	state uint8
	done  uint64
}

func (x progress) isValid() bool {
	return x.state >= api.OrderQueued && x.state <= api.OrderCancelled && x.done <= api.MaxTick
}

func (x progress) appendTo(b []byte) []byte {
	b = put(b, uint64(x.state), stateSize)
	return put(b, x.done, tickSize)
}

func (x progress) readFrom(in *reader) body {
	x.state = uint8(in.uint(stateSize))
	x.done = in.uint(tickSize)
	return x
}

// telemetry is the body of a reply about robots.
type telemetry struct {
	robots []api.Sight
	queued int
}

func (x telemetry) isValid() bool {
	if len(x.robots) > api.MaxRobots || !upTo(api.MaxQueue, x.queued) {
		return false
	}
	for _, s := range x.robots {
		if !upTo(api.MaxCells-1, s.Place) || s.State > api.RobotToHome || !upTo(api.MaxOrders, s.Order) {
			return false
		}
	}
	return true
}

func (x telemetry) appendTo(b []byte) []byte {
	b = put(b, uint64(len(x.robots)), manySize)
	for _, s := range x.robots {
		b = put(b, uint64(s.Place), placeSize)
		b = put(b, uint64(s.State), stateSize)
		b = put(b, uint64(s.Order), orderSize)
	}
	return put(b, uint64(x.queued), manySize)
}

func (x telemetry) readFrom(in *reader) body {
	for range in.uint(manySize) {
		var s api.Sight
		s.Place = int(in.uint(placeSize))
		s.State = uint8(in.uint(stateSize))
		s.Order = int(in.uint(orderSize))
		x.robots = append(x.robots, s)
	}
	x.queued = int(in.uint(manySize))
	return x
}

// history is the body of a reply about a log.
type history struct {
	count   uint32
	records []api.Record
}

func (x history) isValid() bool {
	return len(x.records) <= api.MaxRecords && areRecords(x.records)
}

func (x history) appendTo(b []byte) []byte {
	b = put(b, uint64(x.count), countSize)
	b = put(b, uint64(len(x.records)), manySize)
	for _, r := range x.records {
		b = append(appendNote(b, r), r.Link[:]...)
	}
	return b
}

func (x history) readFrom(in *reader) body {
	x.count = uint32(in.uint(countSize))
	for range in.uint(manySize) {
		var r api.Record
		r.Tick = in.uint(tickSize)
		r.Kind = in.kind()
		r.Code = in.code()
		r.Link = in.link()
		x.records = append(x.records, r)
	}
	return x
}

// grant is the body of a reply with a token.
type grant struct{ token api.Token }

func (x grant) isValid() bool { return true }

func (x grant) appendTo(b []byte) []byte { return append(b, auth.Encode(x.token)...) }

func (x grant) readFrom(in *reader) body {
	x.token = in.token()
	return x
}

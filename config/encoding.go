package config

import (
	"dunnage/api"
	"dunnage/digest"
)

// startSize is the number of bytes of Start in an encoding.
const startSize = 8

// Encode returns the encoding of a config.
func Encode(c api.Config) ([]byte, api.Errno) {
	if e := Check(c); e != api.OK {
		return nil, e
	}
	b := appendBytes(nil, c.Floor.W, c.Floor.H)
	b = append(b, c.Floor.Cells...)
	b = appendBytes(b, len(c.Slices))
	b = append(b, c.Slices...)
	b = appendBytes(b, len(c.Teams))
	for _, m := range c.Teams {
		b = appendTeam(b, m)
	}
	return digest.PutUint(b, c.Start, startSize)
}

// Decode returns the config of an encoding.
func Decode(b []byte) (api.Config, api.Errno) {
	if len(b) > api.MaxConfig {
		return api.Config{}, api.ErrMany
	}
	var c api.Config
	r := &reader{bytes: b}
	for _, readPart := range []func(*api.Config){r.readFloor, r.readSlices, r.readTeams, r.readStart} {
		readPart(&c)
	}
	if r.e != api.OK {
		return api.Config{}, r.e
	}
	if r.at < len(b) {
		return api.Config{}, api.ErrForm
	}
	if e := Check(c); e != api.OK {
		return api.Config{}, e
	}
	return c, api.OK
}

// appendTeam appends the encoding of a valid or absent team to bytes that the caller owns.
func appendTeam(b []byte, m api.Team) []byte {
	if Absent(m) {
		return appendBytes(b, 0)
	}
	for _, spots := range [][]int{m.Homes, m.Picks, m.Drops} {
		b = appendBytes(b, len(spots))
		b = appendBytes(b, spots...)
	}
	return appendBytes(b, m.Load, m.Unload, m.Queue, m.Quota, m.Window)
}

// appendBytes appends numbers, each of which fits a byte, to bytes that the caller owns.
func appendBytes(b []byte, numbers ...int) []byte {
	for _, n := range numbers {
		b = append(b, byte(n))
	}
	return b
}

// reader reads the fields of an encoding one after the other. It keeps its first error, after which all that it reads is zero or empty.
type reader struct {
	bytes []byte
	at    int
	e     api.Errno
}

// readFloor reads the floor of a config.
func (r *reader) readFloor(c *api.Config) {
	c.Floor.W = r.number()
	c.Floor.H = r.number()
	c.Floor.Cells = r.take(c.Floor.W * c.Floor.H)
}

// readSlices reads the slice table of a config.
func (r *reader) readSlices(c *api.Config) { c.Slices = r.take(r.number()) }

// readTeams reads the teams of a config.
func (r *reader) readTeams(c *api.Config) {
	for range r.number() {
		c.Teams = append(c.Teams, r.team())
	}
}

// readStart reads the first tick of a config.
func (r *reader) readStart(c *api.Config) { c.Start = r.uint(startSize) }

// team reads a team.
func (r *reader) team() api.Team {
	homes := r.numbers()
	if len(homes) == 0 {
		return api.Team{}
	}
	m := api.Team{Homes: homes}
	m.Picks = r.numbers()
	m.Drops = r.numbers()
	m.Load = r.number()
	m.Unload = r.number()
	m.Queue = r.number()
	m.Quota = r.number()
	m.Window = r.number()
	return m
}

// numbers reads how many numbers follow, and these.
func (r *reader) numbers() []int {
	var numbers []int
	for _, n := range r.take(r.number()) {
		numbers = append(numbers, int(n))
	}
	return numbers
}

// number reads a number of one byte.
func (r *reader) number() int { return int(r.uint(1)) }

// uint reads a number of some bytes.
func (r *reader) uint(size int) uint64 {
	if r.e != api.OK {
		return 0
	}
	n, next, e := digest.TakeUint(r.bytes, r.at, size)
	r.move(next, e)
	return n
}

// take reads some bytes.
func (r *reader) take(many int) []byte {
	if r.e != api.OK {
		return nil
	}
	b, next, e := digest.TakeBytes(r.bytes, r.at, many)
	r.move(next, e)
	return b
}

// move goes on to the next field, or keeps an error.
func (r *reader) move(next int, e api.Errno) { r.at, r.e = next, e }

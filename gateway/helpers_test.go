package gateway_test

import (
	"bytes"
	"math"
	"slices"
	"testing"

	"dunnage/api"
	"dunnage/auth"
	"dunnage/config"
	"dunnage/gateway"
	"dunnage/wire"
)

// hugeNumbers are far out of each range, and so chosen that a conversion to fewer bits, or a sum, would bring them back.
var hugeNumbers = []int{math.MinInt, math.MinInt + 1, -1 << 32, -256, 256, 257, 1 << 32, 1<<32 + 1, 1 << 62, math.MaxInt - 1, math.MaxInt}

// lateTicks are beyond MaxTick.
var lateTicks = []uint64{api.MaxTick + 1, api.MaxLook, 1 << 63, math.MaxUint64 - 1, math.MaxUint64}

// wantErrno checks an error number.
func wantErrno(t *testing.T, what string, got, wanted api.Errno) {
	t.Helper()
	if got != wanted {
		t.Errorf("%s: error %d, want %d", what, got, wanted)
	}
}

// equalConfigs reports whether two configs are equal.
func equalConfigs(a, b api.Config) bool {
	return a.Floor.W == b.Floor.W && a.Floor.H == b.Floor.H && bytes.Equal(a.Floor.Cells, b.Floor.Cells) &&
		bytes.Equal(a.Slices, b.Slices) && slices.EqualFunc(a.Teams, b.Teams, equalTeams) && a.Start == b.Start
}

// equalTeams reports whether two teams are equal.
func equalTeams(m, n api.Team) bool {
	return slices.Equal(m.Homes, n.Homes) && slices.Equal(m.Picks, n.Picks) && slices.Equal(m.Drops, n.Drops) &&
		[5]int{m.Load, m.Unload, m.Queue, m.Quota, m.Window} == [5]int{n.Load, n.Unload, n.Queue, n.Quota, n.Window}
}

// equalCrews reports whether two crews are equal.
func equalCrews(a, b api.Crew) bool {
	return slices.Equal(a.Robots, b.Robots) && a.Mover == b.Mover &&
		slices.Equal(a.Book.Orders, b.Book.Orders) && slices.Equal(a.Book.Queue, b.Book.Queue) && a.Book.Count == b.Book.Count
}

// equalFleets reports whether two fleets are equal.
func equalFleets(a, b api.Fleet) bool {
	return slices.EqualFunc(a.Crews, b.Crews, equalCrews) && slices.Equal(a.Claims, b.Claims) && a.Tick == b.Tick
}

// equalLogs reports whether two logs are equal.
func equalLogs(a, b api.Log) bool {
	return a.Count == b.Count && a.Link == b.Link && slices.Equal(a.Records, b.Records)
}

// equalAccounts reports whether two accounts are equal.
func equalAccounts(a, b api.Account) bool {
	return slices.Equal(a.Ring, b.Ring) && equalLogs(a.Log, b.Log) && bytes.Equal(a.Pending, b.Pending)
}

// equalWorlds reports whether two worlds are equal.
func equalWorlds(a, b api.World) bool {
	return equalConfigs(a.Config, b.Config) && bytes.Equal(a.Key, b.Key) && equalFleets(a.Fleet, b.Fleet) && slices.EqualFunc(a.Accounts, b.Accounts, equalAccounts)
}

// equalOuts reports whether two lists of outputs are equal.
func equalOuts(some, others []api.Out) bool {
	return slices.EqualFunc(some, others, func(a, b api.Out) bool {
		return a.Tenant == b.Tenant && a.Tick == b.Tick && bytes.Equal(a.Bytes, b.Bytes)
	})
}

// equalSteps reports whether two scripts are equal.
func equalSteps(some, others []api.Step) bool {
	return slices.EqualFunc(some, others, func(a, b api.Step) bool {
		return a.Kind == b.Kind && a.Tenant == b.Tenant && a.Robot == b.Robot && a.Role == b.Role && a.Life == b.Life && bytes.Equal(a.Bytes, b.Bytes)
	})
}

// copied returns a world that shares no memory with another one.
func copied(w api.World) api.World {
	w.Config.Floor.Cells, w.Config.Slices, w.Key = slices.Clone(w.Config.Floor.Cells), slices.Clone(w.Config.Slices), slices.Clone(w.Key)
	w.Config.Teams = slices.Clone(w.Config.Teams)
	for t, m := range w.Config.Teams {
		m.Homes, m.Picks, m.Drops = slices.Clone(m.Homes), slices.Clone(m.Picks), slices.Clone(m.Drops)
		w.Config.Teams[t] = m
	}
	w.Fleet.Claims, w.Fleet.Crews = slices.Clone(w.Fleet.Claims), slices.Clone(w.Fleet.Crews)
	for t, x := range w.Fleet.Crews {
		x.Robots, x.Book.Orders, x.Book.Queue = slices.Clone(x.Robots), slices.Clone(x.Book.Orders), slices.Clone(x.Book.Queue)
		w.Fleet.Crews[t] = x
	}
	w.Accounts = slices.Clone(w.Accounts)
	for t, a := range w.Accounts {
		a.Ring, a.Log.Records, a.Pending = slices.Clone(a.Ring), slices.Clone(a.Log.Records), slices.Clone(a.Pending)
		w.Accounts[t] = a
	}
	return w
}

// changed returns a copy of a world after a change.
func changed(w api.World, change func(w *api.World)) api.World {
	w = copied(w)
	change(&w)
	return w
}

// encoded returns the encoding of a config.
func encoded(c api.Config) []byte {
	b, e := config.Encode(c)
	if e != api.OK {
		panic("a config of the tests is not valid")
	}
	return b
}

// aKey is the key of these tests.
const aKey = "a key of the tests"

// newWorld returns the world that New returns for a config.
func newWorld(t *testing.T, c api.Config) api.World {
	t.Helper()
	w, e := gateway.New(encoded(c), []byte(aKey))
	if e != api.OK {
		t.Fatalf("New: error %d", e)
	}
	return w
}

// result is what a step returns.
type result struct {
	w    api.World
	outs []api.Out
	e    api.Errno
}

// run calls Step.
func run(w api.World, s api.Step) result {
	var r result
	r.w, r.outs, r.e = gateway.Step(w, s)
	return r
}

// runOwn calls the function that belongs to the step's kind.
func runOwn(w api.World, s api.Step) result {
	var r result
	switch s.Kind {
	case api.StepTick:
		r.w, r.outs, r.e = gateway.Tick(w)
	case api.StepBytes:
		r.w, r.outs, r.e = gateway.Receive(w, s.Tenant, s.Bytes)
	case api.StepStall:
		r.w, r.e = gateway.Stall(w, s.Tenant, s.Robot)
	case api.StepMint:
		r.w, r.outs, r.e = gateway.Mint(w, s.Tenant, s.Role, s.Life)
	default:
		panic("there is no such kind of steps")
	}
	return r
}

// sameResult reports whether two results are the same.
func sameResult(a, b result) bool {
	return equalWorlds(a.w, b.w) && equalOuts(a.outs, b.outs) && a.e == b.e
}

// wantResult checks what a step returned.
func wantResult(t *testing.T, what string, got, wanted result) {
	t.Helper()
	if !sameResult(got, wanted) {
		t.Errorf("%s: %v, want %v", what, got, wanted)
	}
}

// wantOuts checks outputs and an error number.
func wantOuts(t *testing.T, what string, got []api.Out, e api.Errno, wanted []api.Out, wantE api.Errno) {
	t.Helper()
	if !equalOuts(got, wanted) || e != wantE {
		t.Errorf("%s: %v, %d, want %v, %d", what, got, e, wanted, wantE)
	}
}

// wantSteps checks a script, a line and an error number.
func wantSteps(t *testing.T, what string, got []api.Step, line int, e api.Errno, wanted []api.Step, wantLine int, wantE api.Errno) {
	t.Helper()
	if !equalSteps(got, wanted) || line != wantLine || e != wantE {
		t.Errorf("%s: %v, %d, %d, want %v, %d, %d", what, got, line, e, wanted, wantLine, wantE)
	}
}

// wantText checks a text and an error number.
func wantText(t *testing.T, what, got string, e api.Errno, wanted string, wantE api.Errno) {
	t.Helper()
	if got != wanted || e != wantE {
		t.Errorf("%s: %q, %d, want %q, %d", what, got, e, wanted, wantE)
	}
}

// outOf returns the output of a reply.
func outOf(tenant int, r api.Reply) api.Out {
	b, e := wire.EncodeReply(r)
	if e != api.OK {
		panic("a reply of the tests is not valid")
	}
	return api.Out{Tenant: tenant, Tick: r.Tick, Bytes: b}
}

// replyOf returns the reply of an output.
func replyOf(t *testing.T, o api.Out) api.Reply {
	t.Helper()
	r, e := wire.DecodeReply(o.Bytes)
	if e != api.OK || r.Tick != o.Tick {
		t.Fatalf("the output %v: %v, error %d", o, r, e)
	}
	return r
}

// repliesOf returns the replies of outputs.
func repliesOf(t *testing.T, l []api.Out) []api.Reply {
	t.Helper()
	var replies []api.Reply
	for _, o := range l {
		replies = append(replies, replyOf(t, o))
	}
	return replies
}

// frameOf returns the encoding of a request.
func frameOf(q api.Request) []byte {
	b, e := wire.EncodeRequest(q)
	if e != api.OK {
		panic("a request of the tests is not valid")
	}
	return b
}

// framesOf returns the frames in a stream that ends with one.
func framesOf(t *testing.T, b []byte) [][]byte {
	t.Helper()
	frames, rest, e := wire.Split(b)
	if e != api.OK || len(rest) > 0 {
		t.Fatalf("Split of %v: %v is left, error %d", b, rest, e)
	}
	return frames
}

// tokenFor returns the token that is issued for a tenant by a key, as the first one if nothing else is said by its serial number.
func tokenFor(key string, tenant int, role uint8, expiry uint64, serial uint32) api.Token {
	token, e := auth.Sign([]byte(key), api.Token{Tenant: uint8(tenant), Role: role, Expiry: expiry, Serial: serial})
	if e != api.OK {
		panic("a key of the tests is wrong")
	}
	return token
}

// Steps of all kinds.
func tickStep() api.Step { return api.Step{Kind: api.StepTick} }
func bytesStep(tenant int, b []byte) api.Step {
	return api.Step{Kind: api.StepBytes, Tenant: tenant, Bytes: b}
}
func stallStep(tenant, robot int) api.Step {
	return api.Step{Kind: api.StepStall, Tenant: tenant, Robot: robot}
}
func mintStep(tenant int, role uint8, life uint64) api.Step {
	return api.Step{Kind: api.StepMint, Tenant: tenant, Role: role, Life: life}
}

// ticks returns a script of ticks.
func ticks(many int) []api.Step { return slices.Repeat([]api.Step{tickStep()}, many) }

// after returns the world after steps that have to succeed.
func after(t *testing.T, w api.World, steps ...api.Step) api.World {
	t.Helper()
	for _, s := range steps {
		r := run(w, s)
		if r.e != api.OK {
			t.Fatalf("the step %v: error %d", s, r.e)
		}
		w = r.w
	}
	return w
}

// drawer returns a function that draws numbers below a limit, the same ones in each run.
func drawer(seed int) func(limit int) int {
	x := uint32(seed)*2654435761 + 1
	return func(limit int) int {
		x = x*1664525 + 1013904223
		return int(x>>16) % limit
	}
}

// oneOf draws an element of a list.
func oneOf[T any](draw func(limit int) int, l []T) T { return l[draw(len(l))] }

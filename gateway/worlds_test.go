package gateway_test

import (
	"math"
	"slices"
	"strings"
	"sync"
	"testing"

	"dunnage/api"
	"dunnage/config"
	"dunnage/gateway"
)

// busyWorld returns a world of crowdConfig at the tick 15: robots of all tenants are on their ways, and each tenant has tokens, records, and bytes that are pending.
func busyWorld() api.World { return copied(busy()) }

// busy makes the busy world, once.
var busy = sync.OnceValue(func() api.World {
	w, _ := gateway.New(encoded(crowdConfig()), []byte(aKey))
	for t := range 3 {
		first := tokenFor(aKey, t, api.RoleOwn, api.MaxTick, 1)
		steps := []api.Step{mintStep(t, api.RoleOwn, api.MaxTick), mintStep(t, api.RoleTrade, 50), mintStep(t, api.RoleView, 3)}
		for _, q := range []api.Request{
			{Kind: api.KindSubmit, Token: first}, {Kind: api.KindSubmit, Token: first}, {Kind: api.KindSubmit, Token: first}, {Kind: api.KindCancel, Token: first, Number: 2}, {Kind: api.KindRevoke, Token: first, Number: 2},
		} {
			steps = append(steps, bytesStep(t, frameOf(q)))
		}
		for _, s := range append(steps, bytesStep(t, []byte{0, 9, 8, 7}[:t+2])) {
			w, _, _ = gateway.Step(w, s)
		}
	}
	for w.Fleet.Tick < 15 {
		w, _, _ = gateway.Tick(w)
	}
	return w
})

// gapWorld returns a world of gapConfig, in which the tenant 1 is absent.
func gapWorld() api.World {
	w, _ := gateway.New(encoded(gapConfig()), []byte(aKey))
	return w
}

// stuckWorld returns a world of a config that is not sound.
func stuckWorld() api.World {
	w, _ := gateway.New(encoded(exampleConfig()), []byte(aKey))
	w.Config = stuckConfig()
	return w
}

// fullRing returns a ring of so many entries.
func fullRing(many int) []api.Minted {
	return slices.Repeat([]api.Minted{{Role: api.RoleView, Expiry: 20}}, many)
}

// logOf returns a log with so many records ever added, that is valid if it has as many records as it should.
func logOf(count uint32, records int) api.Log {
	l := api.Log{Count: count}
	for i := range records {
		r := api.Record{Tick: uint64(i), Kind: uint8(i % 7), Code: api.Errno(i * 2000), Link: [32]byte{byte(i), 7}}
		l.Records, l.Link = append(l.Records, r), r.Link
	}
	return l
}

// variant is a world with something changed.
type variant struct {
	what string
	w    api.World
}

// goodVariants returns valid worlds.
func goodVariants() []variant {
	all := []variant{{"an absent tenant", gapWorld()}, {"a config that is not sound", stuckWorld()}}
	add := func(what string, change func(w *api.World)) {
		all = append(all, variant{what, changed(busyWorld(), change)})
	}
	add("nothing changed", func(w *api.World) {})
	for _, many := range []int{1, 2, 63, 64} {
		add("a key of another length", func(w *api.World) { w.Key = make([]byte, many) })
	}
	add("no claims", func(w *api.World) { w.Fleet.Claims = nil })
	for t := range 3 {
		account := func(what string, change func(a *api.Account)) {
			add(what, func(w *api.World) { change(&w.Accounts[t]) })
		}
		account("an empty account", func(a *api.Account) { *a = api.Account{} })
		account("a full ring", func(a *api.Account) { a.Ring = fullRing(32) })
		account("entries that are revoked and expired", func(a *api.Account) { a.Ring = []api.Minted{{Role: 3, Revoked: true}, {Role: 1, Expiry: api.MaxTick}} })
		for _, x := range []struct{ count, records int }{{1, 1}, {31, 31}, {32, 32}, {33, 32}, {math.MaxUint32 - 1, 32}, {math.MaxUint32, 32}} {
			account("another log", func(a *api.Account) { a.Log = logOf(uint32(x.count), x.records) })
		}
		for _, b := range [][]byte{{}, {0}, {1}, {255}, {0, 3}, {0, 3}, {0, 4, 9}, {0, 64}, append([]byte{0, 64}, make([]byte, 61)...)} {
			account("the beginning of a frame", func(a *api.Account) { a.Pending = b })
		}
	}
	all = append(all, variant{"an absent tenant's lists that are not nil", changed(gapWorld(), func(w *api.World) {
		w.Accounts[1] = api.Account{Ring: []api.Minted{}, Pending: []byte{}, Log: api.Log{Records: []api.Record{}}}
	})})
	return append(all, variant{"the last tick", changed(gapWorld(), func(w *api.World) { w.Fleet.Tick = api.MaxTick })})
}

// badVariants returns worlds with a valid config that are not valid, each for one reason.
func badVariants() []variant { return slices.Concat(badWorlds(), badAccounts()) }

// badWorlds returns worlds that are not valid for other reasons than the account of a tenant.
func badWorlds() []variant {
	var all []variant
	add := func(what string, change func(w *api.World)) {
		all = append(all, variant{what, changed(busyWorld(), change)})
	}
	add("no key", func(w *api.World) { w.Key = nil })
	add("an empty key", func(w *api.World) { w.Key = []byte{} })
	for _, many := range []int{65, 128, 1<<16 + 1} {
		add("a key that is too long", func(w *api.World) { w.Key = make([]byte, many) })
	}
	for _, tick := range lateTicks {
		add("a tick that is too late", func(w *api.World) { w.Fleet.Tick, w.Fleet.Claims = tick, nil })
	}
	add("another tick", func(w *api.World) { w.Fleet.Tick++ })
	add("a claim too few", func(w *api.World) { w.Fleet.Claims = w.Fleet.Claims[1:] })
	add("a robot elsewhere", func(w *api.World) { w.Fleet.Crews[0].Robots[0].Place = 64 })
	add("a queue that is not right", func(w *api.World) { w.Fleet.Crews[1].Book.Queue = []int{9} })
	add("a crew too few", func(w *api.World) { w.Fleet.Crews, w.Fleet.Claims = w.Fleet.Crews[:2], nil })
	add("no fleet", func(w *api.World) { w.Fleet = api.Fleet{} })
	add("no accounts", func(w *api.World) { w.Accounts = nil })
	add("an account too few", func(w *api.World) { w.Accounts = w.Accounts[:2] })
	add("an account too many", func(w *api.World) { w.Accounts = append(w.Accounts, api.Account{}) })
	add("very many accounts", func(w *api.World) { w.Accounts = make([]api.Account, 1<<16) })
	all = append(all, variant{"an account too few behind an absent tenant", changed(gapWorld(), func(w *api.World) { w.Accounts = w.Accounts[:2] })})
	return append(all, variant{"an account too many behind an absent tenant", changed(gapWorld(), func(w *api.World) { w.Accounts = append(w.Accounts, api.Account{}) })})
}

// badAccounts returns worlds that are not valid for the account of a tenant.
func badAccounts() []variant {
	var all []variant
	for t := range 3 {
		account := func(what string, change func(a *api.Account)) {
			all = append(all, variant{what, changed(busyWorld(), func(w *api.World) { change(&w.Accounts[t]) })})
		}
		account("a ring that is too long", func(a *api.Account) { a.Ring = fullRing(33) })
		for _, m := range []api.Minted{{Role: 0, Expiry: 5}, {Role: 4, Expiry: 5}, {Role: 255}, {Role: 1, Expiry: api.MaxTick + 1}, {Role: 1, Expiry: math.MaxUint64}} {
			account("an entry that is not valid", func(a *api.Account) { a.Ring = append(a.Ring, m) })
		}
		for _, x := range []struct{ count, records int }{{0, 1}, {1, 0}, {2, 1}, {32, 31}, {33, 33}, {33, 31}, {math.MaxUint32, 31}} {
			account("a log with the wrong number of records", func(a *api.Account) { a.Log = logOf(uint32(x.count), x.records) })
		}
		account("another link", func(a *api.Account) { a.Log.Link[31]++ })
		account("a link without records", func(a *api.Account) { a.Log = api.Log{Link: [32]byte{1}} })
		account("a record of a late tick", func(a *api.Account) { a.Log.Records[0].Tick = api.MaxTick + 1 })
		account("a record of another kind", func(a *api.Account) { a.Log.Records[0].Kind = 7 })
		account("a record of a great code", func(a *api.Account) { a.Log.Records[0].Code = 65536 })
		account("a record of a negative code", func(a *api.Account) { a.Log.Records[0].Code = -1 })
		frame := append([]byte{0, 64}, make([]byte, 62)...)
		for _, b := range [][]byte{{0, 0}, {0, 1}, {0, 2}, {0, 65}, {1, 3}, {255, 255}, {0, 3, 4}, {0, 2, 0}, {0, 0, 0, 64}, {0, 3, 4, 0}, frame, append(frame, 0), make([]byte, 4161), make([]byte, 1<<17)} {
			account("a frame that is pending", func(a *api.Account) { a.Pending = b })
		}
	}
	absent := func(what string, change func(a *api.Account)) {
		all = append(all, variant{what, changed(gapWorld(), func(w *api.World) { change(&w.Accounts[1]) })})
	}
	absent("an absent tenant with a token", func(a *api.Account) { a.Ring = fullRing(1) })
	absent("an absent tenant with a byte", func(a *api.Account) { a.Pending = []byte{0} })
	absent("an absent tenant with a record", func(a *api.Account) { a.Log = logOf(1, 1) })
	absent("an absent tenant with a record that is not counted", func(a *api.Account) { a.Log = logOf(0, 1) })
	absent("an absent tenant with a count", func(a *api.Account) { a.Log.Count = 1 })
	absent("an absent tenant with a link", func(a *api.Account) { a.Log.Link[0] = 1 })
	return all
}

// P10.1: New returns a world with the config, the key, a new fleet, and empty accounts.
func TestNew(t *testing.T) {
	w := newWorld(t, gapConfig())
	wanted := api.World{Config: gapConfig(), Key: []byte(aKey), Accounts: make([]api.Account, 3), Fleet: api.Fleet{Tick: 7, Crews: []api.Crew{
		{Robots: []api.Robot{{Place: 0}}, Mover: -1}, {Mover: -1}, {Robots: []api.Robot{{Place: 10}}, Mover: -1},
	}}}
	if !equalWorlds(w, wanted) {
		t.Errorf("New: %v, want %v", w, wanted)
	}
	for _, c := range soundConfigs() {
		for _, start := range []uint64{0, c.Start, api.MaxTick} {
			for _, many := range []int{1, 2, 32, 63, 64} {
				c.Start = start
				key := make([]byte, many)
				w, e := gateway.New(encoded(c), key)
				wanted, _ := specNew(encoded(c), key)
				if !equalWorlds(w, wanted) || e != api.OK || !equalConfigs(w.Config, c) {
					t.Errorf("New: %v, %d, want %v", w, e, wanted)
				}
				wantErrno(t, "Check of a new world", gateway.Check(w), api.OK)
			}
		}
	}
}

// encodings returns bytes that are no encoding of a valid config, each with the error of config.Decode.
func encodings() map[string]api.Errno {
	good := encoded(exampleConfig())
	replaced := func(at int, value byte) string {
		b := slices.Clone(good)
		b[at] = value
		return string(b)
	}
	return map[string]api.Errno{
		"":                          api.ErrShort,
		string(good[:len(good)-1]):  api.ErrShort,
		string(good) + "\x00":       api.ErrForm,
		strings.Repeat("\x00", 257): api.ErrMany,
		replaced(0, 9):              api.ErrShort,
		replaced(2, 254):            api.ErrFloor,
		replaced(23, 4):             api.ErrSlices,
		replaced(2, 2):              api.ErrTeam,
		replaced(52, 0x41):          api.ErrArg,
	}
}

// P10.1: New returns config.Decode's error; ErrArg unless the key is one; ErrRoute unless the config is sound.
func TestNewErrors(t *testing.T) {
	wantNone := func(what string, conf, key []byte, wanted api.Errno) {
		t.Helper()
		if w, e := gateway.New(conf, key); e != wanted || !equalWorlds(w, api.World{}) {
			t.Errorf("New of %s: %v, %d, want the error %d", what, w, e, wanted)
		}
		if outs, e := gateway.Run(conf, key, make([]api.Step, 4097)); e != wanted || len(outs) > 0 {
			t.Errorf("Run of %s: %v, %d, want the error %d", what, outs, e, wanted)
		}
	}
	other := exampleConfig()
	other.Slices = []uint8{1, 1, 0}
	for _, key := range [][]byte{nil, {}, make([]byte, 65), make([]byte, 1<<16)} {
		wantNone("a wrong key", encoded(exampleConfig()), key, api.ErrArg)
		wantNone("a wrong key, and a config that is not sound", encoded(stuckConfig()), key, api.ErrArg)
		for conf, wanted := range encodings() {
			wantNone("a wrong config and a wrong key", []byte(conf), key, wanted)
		}
	}
	for conf, wanted := range encodings() {
		if _, e := config.Decode([]byte(conf)); e != wanted {
			t.Errorf("Decode: error %d, want %d", e, wanted)
		}
		wantNone("a wrong config", []byte(conf), []byte(aKey), wanted)
	}
	wantNone("a config that is not sound", encoded(stuckConfig()), []byte(aKey), api.ErrRoute)
	wantNone("a config that is not sound for its last tenant", encoded(other), []byte(aKey), api.ErrRoute)
}

// The worlds of these tests are what they have to be.
func TestWorlds(t *testing.T) {
	for _, v := range goodVariants() {
		wantErrno(t, "the definition of "+v.what, specCheck(v.w), api.OK)
	}
	for _, v := range badVariants() {
		wantErrno(t, "the definition of "+v.what, specCheck(v.w), api.ErrBad)
	}
	w := busyWorld()
	for tenant, a := range w.Accounts {
		x := w.Fleet.Crews[tenant]
		if len(a.Ring) != 3 || !a.Ring[1].Revoked || a.Log.Count != 5 || len(a.Pending) != tenant+2 || len(x.Book.Orders) < 2 || w.Fleet.Tick != 15 {
			t.Errorf("the busy world: %v, %v", a, x)
		}
	}
	if len(w.Fleet.Claims) == 0 {
		t.Error("the busy world has no claims")
	}
}

// P10.1: Check, of worlds that are valid, and of worlds that are not for one reason each; config.Check's error comes first.
func TestCheck(t *testing.T) {
	for _, v := range goodVariants() {
		wantErrno(t, "Check of "+v.what, gateway.Check(v.w), api.OK)
	}
	for _, v := range badVariants() {
		wantErrno(t, "Check of "+v.what, gateway.Check(v.w), api.ErrBad)
	}
	wantErrno(t, "Check of nothing", gateway.Check(api.World{}), api.ErrFloor)
	some := append(badVariants()[:9], variant{"a good world", busyWorld()})
	for _, bad := range badConfigs() {
		for _, v := range some {
			v.w.Config = bad.c
			wantErrno(t, "Check of "+v.what+" with "+bad.what, gateway.Check(v.w), bad.e)
		}
	}
	other := busyWorld()
	other.Config = exampleConfig()
	wantErrno(t, "Check with another config", gateway.Check(other), api.ErrBad)
}

// P10.1: Check of worlds with something changed.
func TestCheckOfChangedWorlds(t *testing.T) {
	good, bad, n := 0, 0, 0
	eachMoment(func(m moment) {
		if n++; n%4 > 0 {
			return
		}
		w := copied(m.before)
		disturb(drawer(n), &w)
		wanted := specCheck(w)
		if e := gateway.Check(w); e != wanted {
			t.Errorf("Check of %v: error %d, want %d", w, e, wanted)
		}
		if wanted == api.OK {
			good++
		} else {
			bad++
		}
	})
	if good < 300 || bad < 500 {
		t.Errorf("%d worlds are valid, %d are not", good, bad)
	}
}

// disturb changes something of a world by a little.
func disturb(draw func(limit int) int, w *api.World) {
	t := draw(len(w.Accounts))
	a := &w.Accounts[t]
	switch draw(9) {
	case 0:
		a.Pending = append(a.Pending, byte(draw(5)))
	case 1:
		a.Pending = oneOf(draw, [][]byte{nil, {0}, {0, 5, 1}, {0, 2}, {0, 66}})
	case 2:
		a.Ring = append(a.Ring, api.Minted{Role: uint8(draw(5)), Expiry: uint64(draw(2)) << 62})
	case 3:
		a.Log.Count++
	case 4:
		if n := len(a.Log.Records); n > 0 {
			a.Log.Records[draw(n)].Link[draw(32)]++
		}
	case 5:
		a.Log = logOf(uint32(draw(3)), draw(3))
	case 6:
		w.Key = make([]byte, draw(2)*64+draw(2))
	case 7:
		w.Accounts = slices.Delete(w.Accounts, t, t+1)
	default:
		w.Fleet.Tick += uint64(len(w.Config.Slices) + draw(2))
		w.Fleet.Claims = nil
	}
}

// P10.1: Same, of worlds that differ in one thing each.
func TestSame(t *testing.T) {
	wantSame := func(what string, a, b api.World, wanted bool) {
		t.Helper()
		if gateway.Same(a, b) != wanted || gateway.Same(b, a) != wanted {
			t.Errorf("Same of %s: %v and %v, want %t", what, a, b, wanted)
		}
	}
	wantSame("a world and a copy", busyWorld(), copied(busyWorld()), true)
	empty := api.World{Key: []byte{}, Accounts: []api.Account{}}
	empty.Config = api.Config{Slices: []uint8{}, Teams: []api.Team{}, Floor: api.Floor{Cells: []uint8{}}}
	empty.Fleet = api.Fleet{Crews: []api.Crew{}, Claims: []api.Claim{}}
	wantSame("two empty worlds", api.World{}, empty, true)
	account := api.Account{Ring: []api.Minted{}, Log: api.Log{Records: []api.Record{}}, Pending: []byte{}}
	wantSame("two empty accounts", api.World{Accounts: []api.Account{{}}}, api.World{Accounts: []api.Account{account}}, true)
	wantSame("an empty account and none", api.World{}, api.World{Accounts: []api.Account{{}}}, false)
	wantSame("a world and none", busyWorld(), api.World{}, false)
	for _, change := range differences() {
		other := changed(busyWorld(), change)
		wantSame("different worlds", busyWorld(), other, false)
		wantSame("a world that may not be valid, and a copy", other, copied(other), true)
	}
}

// differences returns changes of the busy world, each of one field.
func differences() []func(w *api.World) {
	all := []func(w *api.World){
		func(w *api.World) { w.Config.Start++ },
		func(w *api.World) { w.Config.Slices[8]++ },
		func(w *api.World) { w.Config.Floor.Cells[63]++ },
		func(w *api.World) { w.Config.Floor.W++ },
		func(w *api.World) { w.Config.Teams[2].Window++ },
		func(w *api.World) { w.Config.Teams = w.Config.Teams[:2] },
		func(w *api.World) { w.Key = w.Key[1:] },
		func(w *api.World) { w.Key = append(w.Key, 0) },
		func(w *api.World) { w.Key[len(w.Key)-1]++ },
		func(w *api.World) { w.Fleet.Tick++ },
		func(w *api.World) { w.Fleet.Claims = w.Fleet.Claims[1:] },
		func(w *api.World) { w.Fleet.Crews[2].Robots[0].Due = true },
		func(w *api.World) { w.Fleet.Crews[1].Book.Orders[0].Pick++ },
		func(w *api.World) { w.Accounts = w.Accounts[:2] },
		func(w *api.World) { w.Accounts = append(w.Accounts, api.Account{}) },
		func(w *api.World) { w.Accounts = nil },
	}
	for t := range 3 {
		all = append(all,
			func(w *api.World) { w.Accounts[t].Ring = w.Accounts[t].Ring[1:] },
			func(w *api.World) { w.Accounts[t].Ring[2].Role++ },
			func(w *api.World) { w.Accounts[t].Ring[2].Expiry++ },
			func(w *api.World) { w.Accounts[t].Ring[2].Revoked = true },
			func(w *api.World) { w.Accounts[t].Log.Count++ },
			func(w *api.World) { w.Accounts[t].Log.Link[31]++ },
			func(w *api.World) { w.Accounts[t].Log.Records[4].Tick++ },
			func(w *api.World) { w.Accounts[t].Log.Records[4].Kind++ },
			func(w *api.World) { w.Accounts[t].Log.Records[4].Code++ },
			func(w *api.World) { w.Accounts[t].Log.Records[0].Link[0]++ },
			func(w *api.World) { w.Accounts[t].Log.Records = w.Accounts[t].Log.Records[:4] },
			func(w *api.World) { w.Accounts[t].Pending[0]++ },
			func(w *api.World) { w.Accounts[t].Pending = append(w.Accounts[t].Pending, 0) })
	}
	return all
}

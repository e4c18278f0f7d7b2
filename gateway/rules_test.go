package gateway_test

import (
	"bytes"
	"slices"
	"strings"
	"testing"

	"dunnage/api"
	"dunnage/gateway"
)

// someSteps returns steps of all kinds for a tenant of the busy world, all of which succeed.
func someSteps(tenant int) []api.Step {
	all := []api.Step{tickStep(), stallStep(tenant, 0), mintStep(tenant, 2, 9), bytesStep(tenant, []byte{1, 2, 3}), bytesStep(tenant, nil)}
	for kind := api.KindSubmit; kind <= api.KindRevoke; kind++ {
		// What is pending is longer at greater ports, and ends with these bytes.
		b := append(make([]byte, 9)[tenant+2:], ownRequest(tenant, api.Request{Kind: kind})...)
		all = append(all, bytesStep(tenant, append(b, 0, 6, 5)))
	}
	return all
}

// wantError checks that all functions that take a world return an error, and zero values.
func wantError(t *testing.T, what string, w api.World, s api.Step, wanted api.Errno) {
	t.Helper()
	wantResult(t, "Step of "+what, run(w, s), result{e: wanted})
	for kind := api.StepTick; kind <= api.StepMint; kind++ {
		s.Kind = kind
		wantResult(t, "a function of "+what, runOwn(w, s), result{e: wanted})
	}
}

// P10.1, P10.2, R1, R2: Check's error comes first: config.Check's, and then ErrBad, whatever the other arguments are.
func TestCheckComesFirst(t *testing.T) {
	steps := []api.Step{{}, {Kind: 1}, {Kind: 9, Tenant: 1, Role: 1, Life: 1}, {Kind: 2, Tenant: -1, Robot: 7, Role: 9, Bytes: make([]byte, 4097)}, {Kind: 4, Tenant: 3}}
	for i, v := range badVariants() {
		wantError(t, v.what, v.w, steps[i%len(steps)], api.ErrBad)
		wantError(t, v.what, v.w, api.Step{Kind: uint8(i % 5), Role: 1, Life: 1}, api.ErrBad)
	}
	for _, bad := range badConfigs() {
		for _, s := range steps {
			w := busyWorld()
			w.Config = bad.c
			wantError(t, bad.what, w, s, bad.e)
			wantError(t, bad.what+" and nothing else", api.World{Config: bad.c}, s, bad.e)
		}
	}
}

// The steps of which the following tests change one are good.
func TestSomeSteps(t *testing.T) {
	for tenant := range 3 {
		for _, s := range someSteps(tenant) {
			r := run(busyWorld(), s)
			wantErrno(t, "a step", r.e, api.OK)
			if len(s.Bytes) < 40 {
				continue
			}
			replies := repliesOf(t, r.outs)
			if last := replies[len(replies)-1]; last.Kind == api.KindNone || !bytes.Equal(r.w.Accounts[tenant].Pending, []byte{0, 6, 5}) {
				t.Errorf("the step %v: %v", s, last)
			}
		}
	}
}

// fill sets all elements of a list, also behind its length.
func fill[T any](l []T, value T) {
	l = l[:cap(l)]
	for i := range l {
		l[i] = value
	}
}

// spoilers returns functions of which each fills one list of a world, also behind its length.
func spoilers(w *api.World) []func() {
	c := &w.Config
	all := []func(){
		func() { fill(c.Floor.Cells, 99) },
		func() { fill(c.Slices, 99) },
		func() { fill(w.Key, 99) },
		func() { fill(w.Fleet.Claims, api.Claim{Place: -9}) },
	}
	for t := range c.Teams {
		m := &c.Teams[t]
		all = append(all, func() { fill(m.Homes, -9) }, func() { fill(m.Picks, -9) }, func() { fill(m.Drops, -9) })
	}
	for t := range w.Fleet.Crews {
		x := &w.Fleet.Crews[t]
		all = append(all, func() { fill(x.Robots, api.Robot{Place: -9}) }, func() { fill(x.Book.Orders, api.Order{Id: -9}) }, func() { fill(x.Book.Queue, -9) })
	}
	for t := range w.Accounts {
		a := &w.Accounts[t]
		all = append(all, func() { fill(a.Ring, api.Minted{Role: 99}) }, func() { fill(a.Log.Records, api.Record{Kind: 99}) }, func() { fill(a.Pending, 99) })
	}
	return append(all,
		func() { fill(c.Teams, api.Team{Load: -9}) },
		func() { fill(w.Fleet.Crews, api.Crew{Mover: -9}) },
		func() { fill(w.Accounts, api.Account{Pending: []byte{99}}) })
}

// spoil fills all lists of a result, also behind their lengths.
func spoil(r result) {
	for _, o := range r.outs {
		fill(o.Bytes, 99)
	}
	fill(r.outs, api.Out{Tenant: -9})
	for _, do := range spoilers(&r.w) {
		do()
	}
}

// roomy returns a list with the same elements, and the longer array behind it.
func roomy[T any](l []T, more ...T) (part, behind []T) {
	behind = append(slices.Clone(l), more...)
	return behind[:len(l)], behind
}

// roomyWorld returns a world whose slices all have more capacity than length, and a world whose slices are what is behind them.
func roomyWorld(w api.World) (part, behind api.World) {
	w = copied(w)
	behind = copied(w)
	w.Config.Floor.Cells, behind.Config.Floor.Cells = roomy(w.Config.Floor.Cells, 9, 9)
	w.Config.Slices, behind.Config.Slices = roomy(w.Config.Slices, 1, 2)
	w.Key, behind.Key = roomy(w.Key, 3, 4)
	w.Fleet.Claims, behind.Fleet.Claims = roomy(w.Fleet.Claims, api.Claim{Place: 1}, api.Claim{Tick: 5})
	for t := range w.Accounts {
		m, n := &w.Config.Teams[t], &behind.Config.Teams[t]
		m.Homes, n.Homes = roomy(m.Homes, -2, -3)
		m.Picks, n.Picks = roomy(m.Picks, -2, -3)
		m.Drops, n.Drops = roomy(m.Drops, -2, -3)
		x, y := &w.Fleet.Crews[t], &behind.Fleet.Crews[t]
		x.Robots, y.Robots = roomy(x.Robots, api.Robot{Place: -1}, api.Robot{State: 77})
		x.Book.Orders, y.Book.Orders = roomy(x.Book.Orders, api.Order{Id: -2}, api.Order{State: 88})
		x.Book.Queue, y.Book.Queue = roomy(x.Book.Queue, -3, -4)
		a, b := &w.Accounts[t], &behind.Accounts[t]
		a.Ring, b.Ring = roomy(a.Ring, api.Minted{Role: 7}, api.Minted{Role: 8})
		a.Log.Records, b.Log.Records = roomy(a.Log.Records, api.Record{Kind: 7}, api.Record{Kind: 8})
		a.Pending, b.Pending = roomy(a.Pending, slices.Repeat([]byte{5, 6}, 50)...)
	}
	return w, behind
}

// P1 (R3): arguments are only read, also behind their lengths, and what is there does not matter; results share no memory with them, nor with one another, and nothing is kept from call to call.
func TestMemoryIsNotShared(t *testing.T) {
	for _, v := range []variant{{"the busy world", busyWorld()}, {"a full log", changed(busyWorld(), func(w *api.World) { w.Accounts[1].Log = logOf(70, 32) })}} {
		for tenant := range 3 {
			for _, s := range someSteps(tenant) {
				before := run(v.w, s)
				w, behind := roomyWorld(v.w)
				all := copied(behind)
				wide := s
				var behindBytes []byte
				wide.Bytes, behindBytes = roomy(s.Bytes, 7, 8, 9)
				first, second := run(w, wide), run(w, wide)
				if !sameResult(first, before) {
					t.Errorf("a step depends on a capacity: %v", s)
				}
				spoil(first)
				if !equalWorlds(w, v.w) || !equalWorlds(behind, all) || !bytes.Equal(behindBytes, slices.Concat(s.Bytes, []byte{7, 8, 9})) {
					t.Errorf("a step changed its arguments, or returned them: %v", s)
				}
				if !sameResult(second, before) || !sameResult(run(w, wide), before) {
					t.Errorf("results share memory, or are kept: %v", s)
				}
			}
		}
	}
}

// P1 (R3): the lists of a result share no memory with one another.
func TestListsOfAResultAreApart(t *testing.T) {
	for _, s := range append(someSteps(1), someSteps(2)...) {
		r := run(busyWorld(), s)
		for i := range spoilers(&r.w) {
			w, wanted := copied(r.w), copied(r.w)
			got := run(busyWorld(), s).w
			spoilers(&got)[i]()
			spoilers(&wanted)[i]()
			if !equalWorlds(got, wanted) || !equalWorlds(w, r.w) {
				t.Errorf("the list %d of the world after %v shares memory with another one", i, s)
			}
		}
		for i := range r.outs {
			fill(r.outs[i].Bytes, 99)
		}
		fresh := run(busyWorld(), s)
		if !equalWorlds(r.w, fresh.w) {
			t.Errorf("the outputs of %v share memory with the world", s)
		}
		for i := range fresh.outs {
			fill(fresh.outs[i].Bytes, 99)
			for j := i + 1; j < len(fresh.outs); j++ {
				if fresh.outs[j].Bytes[0] == 99 {
					t.Fatalf("the outputs %d and %d of %v share memory", i, j, s)
				}
			}
		}
	}
}

// P1 (R3): new worlds share no memory with the arguments of New, nor with one another.
func TestNewWorldsAreApart(t *testing.T) {
	conf, behindConf := roomy(encoded(crowdConfig()), 1, 2, 3)
	key, behindKey := roomy([]byte(aKey), 4, 5, 6)
	all, allKey := slices.Clone(behindConf), slices.Clone(behindKey)
	first, e := gateway.New(conf, key)
	wantErrno(t, "New", e, api.OK)
	wanted := copied(first)
	second, _ := gateway.New(conf, key)
	for i := range spoilers(&first) {
		got, _ := gateway.New(conf, key)
		spoiled := copied(wanted)
		spoilers(&got)[i]()
		spoilers(&spoiled)[i]()
		if !equalWorlds(got, spoiled) {
			t.Errorf("the list %d of a new world shares memory with another one", i)
		}
	}
	if !bytes.Equal(behindConf, all) || !bytes.Equal(behindKey, allKey) || !equalWorlds(second, wanted) {
		t.Error("a new world shares memory")
	}
	fill(conf, 9)
	fill(key, 9)
	if !equalWorlds(second, wanted) {
		t.Error("a new world shares memory with the arguments of New")
	}
}

// P1 (R3): the functions of scripts only read them, also behind their lengths, and return other memory.
func TestScriptsAreApart(t *testing.T) {
	h := longHistories()[0]
	l, behind := roomy(h.script(), tickStep(), mintStep(0, 1, 1))
	for i := range l {
		l[i].Bytes, _ = roomy(l[i].Bytes, 7, 8)
	}
	outs, allOuts := roomy(h.outs(), api.Out{Tenant: 1})
	wantedOuts := h.outs()
	conf, key := encoded(h.c), []byte(aKey)
	for range 2 {
		got, e := gateway.Run(conf, key, l)
		wantOuts(t, "Run", got, e, h.outs(), api.OK)
		spoil(result{outs: got})
		for tenant := range 2 {
			own := gateway.Project(l, tenant)
			for _, s := range own {
				fill(s.Bytes, 99)
			}
			fill(own, api.Step{Kind: 99})
			port := gateway.Port(outs, tenant)
			spoil(result{outs: port})
		}
		if !equalSteps(behind, append(h.script(), tickStep(), mintStep(0, 1, 1))) || !equalOuts(allOuts, append(slices.Clone(wantedOuts), api.Out{Tenant: 1})) {
			t.Fatal("a function changed a script or outputs, or returned them")
		}
		for _, s := range behind {
			if room := s.Bytes[len(s.Bytes):cap(s.Bytes)]; len(room) > 1 && (room[0] != 7 || room[1] != 8) {
				t.Fatal("a function changed what is behind the bytes of a step")
			}
		}
	}
	steps := []api.Step{bytesStep(0, []byte{1, 2}), bytesStep(0, []byte{1, 2}), tickStep()}
	text, _ := gateway.Format(steps)
	first, _, _ := gateway.Parse(text)
	second, _, _ := gateway.Parse(text)
	fill(first[0].Bytes, 99)
	if !equalSteps(first[1:], steps[1:]) {
		t.Error("the steps of a text share memory")
	}
	fill(first, api.Step{Kind: 99})
	if !equalSteps(second, steps) {
		t.Error("the steps of two calls share memory")
	}
}

// P1 (R3): the worlds of a history stay as they are.
func TestEarlierWorldsStay(t *testing.T) {
	w := busyWorld()
	var worlds, copies []api.World
	for range 3 {
		for tenant := range 3 {
			for _, s := range someSteps(tenant) {
				worlds, copies = append(worlds, w), append(copies, copied(w))
				w = after(t, w, s)
			}
		}
	}
	for i := range worlds {
		if !equalWorlds(worlds[i], copies[i]) {
			t.Fatalf("an earlier world: %v, want %v", worlds[i], copies[i])
		}
	}
	// Two ways from one world on do not meet.
	first, second := run(busyWorld(), mintStep(1, 1, 1)), run(busyWorld(), mintStep(1, 2, 2))
	if first.w.Accounts[1].Ring[3].Role != 1 || second.w.Accounts[1].Ring[3].Role != 2 {
		t.Errorf("%v and %v", first.w.Accounts[1], second.w.Accounts[1])
	}
}

// P1 (R2): a call that returns an error has no effect on later ones.
func TestErrorsLeaveNoTrace(t *testing.T) {
	s := someSteps(1)[5]
	before := run(busyWorld(), s)
	for _, v := range badVariants() {
		run(v.w, s)
	}
	gateway.Parse("tick\nno line\n")
	gateway.Play("config -\nkey -\n")
	gateway.Run(nil, nil, nil)
	wantResult(t, "a step after errors", run(busyWorld(), s), before)
	wantParse(t, "tick\n", ticks(1), 0, api.OK)
}

// P1 (R2): with an error all other results are zero values.
func TestErrorsHaveNoResults(t *testing.T) {
	failed := 0
	eachMoment(func(m moment) {
		if m.after.e != api.OK {
			failed++
			wantResult(t, "a step with an error", m.after, result{e: m.after.e})
		}
	})
	if failed < 200 {
		t.Errorf("%d steps failed", failed)
	}
}

// P1 (R4): nil and empty lists are the same.
func TestNilAndEmpty(t *testing.T) {
	none, empty := gapWorld(), gapWorld()
	empty.Config.Teams[1] = api.Team{Homes: []int{}, Picks: []int{}, Drops: []int{}}
	empty.Fleet.Claims = []api.Claim{}
	for tenant := range empty.Accounts {
		empty.Accounts[tenant] = api.Account{Ring: []api.Minted{}, Log: api.Log{Records: []api.Record{}}, Pending: []byte{}}
		empty.Fleet.Crews[tenant].Book = api.Book{Orders: []api.Order{}, Queue: []int{}}
	}
	empty.Fleet.Crews[1].Robots = []api.Robot{}
	for _, s := range []api.Step{tickStep(), bytesStep(2, []byte{0, 1}), stallStep(0, 0), mintStep(2, 1, 1), {}} {
		wantResult(t, "a step of empty lists", run(empty, s), run(none, s))
	}
	for tenant := range 3 {
		some, others := bytesStep(tenant, nil), bytesStep(tenant, []byte{})
		wantResult(t, "no bytes", run(busyWorld(), others), run(busyWorld(), some))
		if run(busyWorld(), some).e != api.OK {
			t.Error("a step of no bytes fails")
		}
	}
	for _, b := range [][]byte{nil, {}} {
		wantFormat(t, []api.Step{{Kind: 1, Bytes: b}, {Kind: 3, Bytes: b}, {Kind: 4, Bytes: b}, {Kind: 2, Bytes: b}}, "tick\nstall 0 0\nmint 0 0 0\nbytes 0 -\n", api.OK)
		if _, e := gateway.New(b, []byte(aKey)); e != api.ErrShort {
			t.Errorf("New with no config: error %d", e)
		}
	}
}

// P1 (R5, R7): no call panics or goes on for ever, whatever the arguments are.
func TestAnyArguments(t *testing.T) {
	numbers := append([]int{-1, 0, 1, 2, 3, 5, 33, 64}, hugeNumbers...)
	late := append([]uint64{0, 1, 15, 16, api.MaxTick - 1, api.MaxTick}, lateTicks...)
	draw := drawer(1)
	pick := func() int { return oneOf(draw, numbers) }
	for range 3000 {
		w := busyWorld()
		for range draw(3) {
			disturb(draw, &w)
			if len(w.Accounts) == 0 {
				break
			}
		}
		switch draw(9) {
		case 0:
			w.Config.Floor.W, w.Config.Teams[1].Homes[0] = pick(), pick()
		case 1:
			w.Config.Teams = w.Config.Teams[:draw(3)]
		case 2:
			w.Fleet.Crews = w.Fleet.Crews[:draw(3)]
		case 3:
			w.Fleet.Crews[0].Robots[0] = api.Robot{Place: pick(), State: uint8(pick()), Order: pick(), Left: pick(), Stall: pick()}
		case 4:
			w.Fleet.Tick = oneOf(draw, late)
		case 5:
			w.Fleet.Crews[2].Mover = pick()
		}
		s := api.Step{Kind: uint8(draw(6)), Tenant: draw(3), Robot: pick(), Role: uint8(pick()), Life: oneOf(draw, late), Bytes: make([]byte, draw(90)*draw(50))}
		if draw(3) == 0 {
			s.Tenant = pick()
		}
		wantErrno(t, "Check", gateway.Check(w), specCheck(w))
		wantResult(t, "any step", run(w, s), specStep(w, s))
		gateway.Same(w, busyWorld())
		gateway.Format([]api.Step{s, s})
		gateway.Project([]api.Step{s}, pick())
		b := make([]byte, draw(300))
		for i := range b {
			b[i] = byte(draw(oneOf(draw, []int{2, 6, 256})))
		}
		if w, e := gateway.New(b, b[:min(len(b), draw(99))]); e != api.OK && !equalWorlds(w, api.World{}) {
			t.Errorf("New: %v, error %d", w, e)
		}
		wanted, line, e := specParse(string(b))
		wantParse(t, string(b), wanted, line, e)
		if out, line, e := gateway.Play(string(b)); out != "" || line == 0 || e == api.OK {
			t.Errorf("Play of %v: %q, %d, %d", b, out, line, e)
		}
	}
	if _, _, e := gateway.Parse(strings.Repeat("\n", 1<<24)); e != api.ErrMany {
		t.Errorf("Parse of a very long text: error %d", e)
	}
}

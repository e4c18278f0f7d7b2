package route_test

import (
	"slices"
	"testing"

	"dunnage/api"
	"dunnage/config"
)

// The functions of this file say what the document says, for valid configs, legs, places and ticks. They follow its definitions as directly as they can: each leg has cells of its own, and each arrival is found by all walks from the leg's first place on.

// specAllowed reports whether a tenant is allowed at a place at a tick.
func specAllowed(c api.Config, t, p int, tick uint64) bool {
	own := uint8(t + 1)
	if c.Floor.Cells[p] == api.CellAisle {
		return c.Slices[tick%uint64(len(c.Slices))] == own
	}
	return c.Floor.Cells[p] == own
}

// specIsLeg reports whether a leg is a leg of a tenant.
func specIsLeg(c api.Config, t int, g api.Leg) bool {
	own := uint8(t + 1)
	return c.Floor.Cells[g.To] == own && (c.Floor.Cells[g.From] == own || c.Floor.Cells[g.From] == api.CellAisle)
}

// specIsCell reports whether a place is a cell of a leg.
func specIsCell(c api.Config, t int, g api.Leg, p int) bool {
	m := c.Teams[t]
	isSpot := slices.Contains(m.Homes, p) || slices.Contains(m.Picks, p) || slices.Contains(m.Drops, p)
	return p == g.From || p == g.To || c.Floor.Cells[p] == api.CellAisle || c.Floor.Cells[p] == uint8(t+1) && !isSpot
}

// specFree reports whether a place is free on a leg at a tick.
func specFree(c api.Config, t int, g api.Leg, p int, tick uint64) bool {
	return specIsCell(c, t, g, p) && specAllowed(c, t, p, tick)
}

// specAround returns a place, and the places north, east, south and west of it.
func specAround(f api.Floor, p int) []int {
	x, y := p%f.W, p/f.W
	places := []int{p}
	if y > 0 {
		places = append(places, p-f.W)
	}
	if x < f.W-1 {
		places = append(places, p+1)
	}
	if y < f.H-1 {
		places = append(places, p+f.W)
	}
	if x > 0 {
		places = append(places, p-1)
	}
	return places
}

// spread is all walks on a leg from a tick on, as far as they have come: the places at which they are, a bit each.
type spread struct {
	f     api.Floor
	free  []uint64
	tick  uint64
	ends  uint64
	goal  uint64
	edges [2]uint64
}

// spreadOf returns the walks of one place on a leg from a tick on.
func spreadOf(c api.Config, t int, g api.Leg, tick uint64) *spread {
	s := &spread{f: c.Floor, tick: tick, ends: 1 << g.From, goal: 1 << g.To, free: make([]uint64, len(c.Slices))}
	for p := range c.Floor.Cells {
		for phase := range s.free {
			if specFree(c, t, g, p, uint64(phase)) {
				s.free[phase] |= 1 << p
			}
		}
		if p%c.Floor.W == 0 {
			s.edges[0] |= 1 << p
			s.edges[1] |= 1 << (p + c.Floor.W - 1)
		}
	}
	return s
}

// goOn makes all walks one place longer.
func (s *spread) goOn() {
	s.tick++
	east, west := s.ends&^s.edges[1]<<1, s.ends&^s.edges[0]>>1
	s.ends |= s.ends<<s.f.W | s.ends>>s.f.W | east | west
	s.ends &= s.free[s.tick%uint64(len(s.free))]
}

// places returns the places at which the walks are.
func (s *spread) places() []int {
	var places []int
	for p := range s.f.Cells {
		if s.ends>>p&1 == 1 {
			places = append(places, p)
		}
	}
	return places
}

// specReach returns the places at which a walk of n + 1 places can end.
func specReach(c api.Config, t int, g api.Leg, tick uint64, n int) []int {
	s := spreadOf(c, t, g, tick)
	for range n {
		s.goOn()
	}
	return s.places()
}

// specArrival returns the arrival of a leg from a tick on, or -1 if it has no route.
func specArrival(c api.Config, t int, g api.Leg, tick uint64) int {
	s := spreadOf(c, t, g, tick)
	for n := range api.MaxRoute + 1 {
		if s.ends&s.goal != 0 {
			return n
		}
		s.goOn()
	}
	return -1
}

// specNext returns the next place of a leg whose arrival is n, from 1 on.
func specNext(c api.Config, t int, g api.Leg, tick uint64, n int) int {
	for _, p := range specAround(c.Floor, g.From) {
		if specFree(c, t, g, p, tick+1) && specArrival(c, t, api.Leg{From: p, To: g.To}, tick+1) == n-1 {
			return p
		}
	}
	return -1
}

// specRoute returns the route of a leg that has one.
func specRoute(c api.Config, t int, g api.Leg, tick uint64) []int {
	places := []int{g.From}
	for n := specArrival(c, t, g, tick); n > 0; n-- {
		g.From = specNext(c, t, g, tick, n)
		tick++
		places = append(places, g.From)
	}
	return places
}

// specWalk reports whether a list is a walk on a leg from a tick on that ends at its goal.
func specWalk(c api.Config, t int, g api.Leg, tick uint64, l []int) bool {
	if len(l) == 0 || l[0] != g.From {
		return false
	}
	for i := 1; i < len(l); i++ {
		if !slices.Contains(specAround(c.Floor, l[i-1]), l[i]) || !specFree(c, t, g, l[i], tick+uint64(i)) {
			return false
		}
	}
	return l[len(l)-1] == g.To
}

// specLegs returns the legs of a tenant.
func specLegs(m api.Team) []api.Leg {
	var legs []api.Leg
	for _, home := range m.Homes {
		for _, pick := range m.Picks {
			legs = append(legs, api.Leg{From: home, To: pick})
		}
	}
	for _, pick := range m.Picks {
		for _, drop := range m.Drops {
			legs = append(legs, api.Leg{From: pick, To: drop})
		}
	}
	for _, drop := range m.Drops {
		for _, home := range m.Homes {
			legs = append(legs, api.Leg{From: drop, To: home})
		}
	}
	return legs
}

// specLongest returns the longest leg of a tenant, or -1 if a leg of it has no route from some tick of the first period on.
func specLongest(c api.Config, t int) int {
	longest := 0
	for _, g := range specLegs(c.Teams[t]) {
		for tick := range c.Slices {
			n := specArrival(c, t, g, uint64(tick))
			if n < 0 {
				return -1
			}
			longest = max(longest, n)
		}
	}
	return longest
}

// specSound reports whether a config is sound.
func specSound(c api.Config) bool {
	for t := range c.Teams {
		if specLongest(c, t) < 0 {
			return false
		}
	}
	return true
}

// The configs of these tests are what they have to be, and of all kinds.
func TestConfigsOfTheTests(t *testing.T) {
	sound, routes, none := 0, 0, 0
	for _, c := range slices.Concat(smallConfigs(), largeConfigs()) {
		wantErrno(t, "Check", config.Check(c), api.OK)
		if specSound(c) {
			sound++
		}
	}
	eachTrip(func(c api.Config, tenant int, g api.Leg) {
		if specArrival(c, tenant, g, 0) < 0 {
			none++
		} else {
			routes++
		}
	})
	if sound < 10 || routes < 1000 || none < 500 {
		t.Errorf("%d sound configs, %d legs with a route, %d without", sound, routes, none)
	}
	for _, bad := range badConfigs() {
		wantErrno(t, bad.what, config.Check(bad.c), bad.e)
	}
}

package gateway

import (
	"slices"

	"dunnage/api"
	"dunnage/auth"
	"dunnage/traffic"
	"dunnage/wire"
)

// isValid reports whether a world with a valid config is valid.
func (g *gate) isValid() bool {
	if !isKey(g.Key) || traffic.Check(g.Config, g.Fleet) != api.OK || len(g.Accounts) != len(g.Config.Teams) {
		return false
	}
	for t, a := range g.Accounts {
		isRight := sameAccount(a, api.Account{})
		if g.isPresent(t) {
			isRight = auth.Check(a.Ring) == api.OK && wire.CheckLog(a.Log) == api.OK && isBeginning(a.Pending)
		}
		if !isRight {
			return false
		}
	}
	return true
}

// isKey reports whether some bytes can be a key.
func isKey(key []byte) bool { return len(key) >= 1 && len(key) <= api.MaxKey }

// isBeginning reports whether some bytes are the beginning of a frame, or none.
func isBeginning(b []byte) bool {
	frames, _, e := wire.Split(b)
	return len(frames) == 0 && e == api.OK
}

// sameAccount reports whether two accounts are the same.
func sameAccount(a, b api.Account) bool {
	return slices.Equal(a.Ring, b.Ring) && sameLog(a.Log, b.Log) && slices.Equal(a.Pending, b.Pending)
}

// sameLog reports whether two logs are the same.
func sameLog(a, b api.Log) bool {
	return a.Count == b.Count && a.Link == b.Link && slices.Equal(a.Records, b.Records)
}

// copyWorld returns a world that shares no memory with the given one.
func copyWorld(w api.World) api.World {
	return api.World{
		Config:   copyConfig(w.Config),
		Key:      slices.Clone(w.Key),
		Fleet:    copyFleet(w.Fleet),
		Accounts: copyEach(w.Accounts, copyAccount),
	}
}

// copyConfig returns a config that shares no memory with the given one.
func copyConfig(c api.Config) api.Config {
	c.Floor.Cells, c.Slices = slices.Clone(c.Floor.Cells), slices.Clone(c.Slices)
	c.Teams = copyEach(c.Teams, func(m api.Team) api.Team {
		m.Homes, m.Picks, m.Drops = slices.Clone(m.Homes), slices.Clone(m.Picks), slices.Clone(m.Drops)
		return m
	})
	return c
}

// copyFleet returns a fleet that shares no memory with the given one.
func copyFleet(f api.Fleet) api.Fleet {
	f.Claims = slices.Clone(f.Claims)
	f.Crews = copyEach(f.Crews, func(w api.Crew) api.Crew {
		w.Robots = slices.Clone(w.Robots)
		w.Book.Orders, w.Book.Queue = slices.Clone(w.Book.Orders), slices.Clone(w.Book.Queue)
		return w
	})
	return f
}

// copyAccount returns an account that shares no memory with the given one.
func copyAccount(a api.Account) api.Account {
	a.Ring, a.Log.Records, a.Pending = slices.Clone(a.Ring), slices.Clone(a.Log.Records), slices.Clone(a.Pending)
	return a
}

// copyEach returns a list of what a function returns for each element of another one.
func copyEach[T any](l []T, copyOne func(x T) T) []T {
	var copies []T
	for _, x := range l {
		copies = append(copies, copyOne(x))
	}
	return copies
}

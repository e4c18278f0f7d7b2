package config

import (
	"slices"

	"dunnage/api"
	"dunnage/floor"
)

// Absent reports whether a team is absent.
func Absent(m api.Team) bool {
	return len(m.Homes) == 0 && len(m.Picks) == 0 && len(m.Drops) == 0 &&
		m.Load == 0 && m.Unload == 0 && m.Queue == 0 && m.Quota == 0 && m.Window == 0
}

// Spots returns a team's homes, picks and drops.
func Spots(m api.Team) []int { return slices.Concat(m.Homes, m.Picks, m.Drops) }

// CheckTeam returns an error unless a team is absent or valid for a tenant on a floor.
func CheckTeam(f api.Floor, t int, m api.Team) api.Errno {
	if e := floor.Check(f); e != api.OK {
		return e
	}
	if t < 0 || t >= api.MaxTeams {
		return api.ErrArg
	}
	if Absent(m) || hasValidNumbers(m) && hasValidSpots(f, t, m) {
		return api.OK
	}
	return api.ErrTeam
}

// hasValidNumbers reports whether a team has as many spots of each kind, and such limits, as a valid one may have.
func hasValidNumbers(m api.Team) bool {
	return within(api.MaxRobots, len(m.Homes)) &&
		within(api.MaxSpots, len(m.Picks), len(m.Drops)) &&
		within(api.MaxWork, m.Load, m.Unload) &&
		within(api.MaxQueue, m.Queue) &&
		within(api.MaxQuota, m.Quota) &&
		within(api.MaxWindow, m.Window)
}

// hasValidSpots reports whether the spots of a team are different private cells of a tenant on a floor.
func hasValidSpots(f api.Floor, t int, m api.Team) bool {
	seen := map[int]bool{}
	for _, p := range Spots(m) {
		owner, e := floor.Owner(f, p)
		if e != api.OK || owner != t || seen[p] {
			return false
		}
		seen[p] = true
	}
	return true
}

// within reports whether all numbers are from 1 to a limit.
func within(limit int, numbers ...int) bool {
	for _, n := range numbers {
		if n < 1 || n > limit {
			return false
		}
	}
	return true
}

// sameTeam reports whether all fields of two teams are equal.
func sameTeam(m, n api.Team) bool {
	return slices.Equal(m.Homes, n.Homes) && slices.Equal(m.Picks, n.Picks) && slices.Equal(m.Drops, n.Drops) &&
		m.Load == n.Load && m.Unload == n.Unload && m.Queue == n.Queue && m.Quota == n.Quota && m.Window == n.Window
}

// copyTeam returns a team that shares no memory with the given one.
func copyTeam(m api.Team) api.Team {
	m.Homes, m.Picks, m.Drops = slices.Clone(m.Homes), slices.Clone(m.Picks), slices.Clone(m.Drops)
	return m
}

package config_test

import (
	"slices"
	"testing"

	"dunnage/api"
	"dunnage/config"
)

// roomy returns a list with the same elements, and the longer array behind it.
func roomy[T any](l []T, more ...T) (part, behind []T) {
	behind = append(slices.Clone(l), more...)
	return behind[:len(l)], behind
}

// roomyConfig returns a config whose slices all have more capacity than length, and functions that return what is behind them.
func roomyConfig(c api.Config) (roomyC api.Config, behind func() (numbers []uint8, places []int, teams []api.Team)) {
	cells, allCells := roomy(c.Floor.Cells, 1, 255, 2, 77)
	entries, allEntries := roomy(c.Slices, 1, 2, 0, 9)
	teams, allTeams := roomy(c.Teams, api.Team{Load: 5}, api.Team{Quota: 6})
	var lists [][]int
	for t := range teams {
		for _, l := range listsOf(&teams[t]) {
			part, all := roomy(*l, 7, 11, 64, -1)
			*l = part
			lists = append(lists, all)
		}
	}
	c.Floor.Cells, c.Slices, c.Teams = cells, entries, teams
	return c, func() ([]uint8, []int, []api.Team) {
		return slices.Concat(allCells, allEntries), slices.Concat(lists...), slices.Clone(allTeams)
	}
}

// callAll calls all functions with a config.
func callAll(c api.Config) {
	for t, m := range c.Teams {
		config.Absent(m)
		config.Spots(m)
		config.CheckTeam(c.Floor, t, m)
		config.Present(c, t)
		config.Only(c, t)
	}
	config.Check(c)
	config.Tenants(c)
	config.Same(c, c)
	config.Encode(c)
}

// P1 (R3): arguments are only read, also behind their length.
func TestArgumentsAreOnlyRead(t *testing.T) {
	configs := validConfigs()
	for _, bad := range badConfigs() {
		configs = append(configs, bad.c)
	}
	for _, c := range configs {
		roomyC, behind := roomyConfig(c)
		numbers, places, teams := behind()
		callAll(roomyC)
		numbersAfter, placesAfter, teamsAfter := behind()
		if !slices.Equal(numbers, numbersAfter) || !slices.Equal(places, placesAfter) || !slices.EqualFunc(teams, teamsAfter, equalTeams) {
			t.Errorf("a call changed %v", c)
		}
		wantConfig(t, "after the calls", roomyC, api.OK, c, api.OK)
	}
	b, behind := roomy(gapBytes(), 1, 2, 3)
	before := slices.Clone(behind)
	config.Decode(b)
	wantBytes(t, "the bytes after Decode", behind, api.OK, before, api.OK)
}

// The capacity of a slice has no cells, entries, teams, spots and bytes.
func TestLengthsCount(t *testing.T) {
	c, _ := roomyConfig(gapConfig())
	wantErrno(t, "Check", config.Check(c), api.OK)
	wantErrno(t, "Check of fewer cells", config.Check(changed(c, func(c *api.Config) { c.Floor.Cells = c.Floor.Cells[:11] })), api.ErrFloor)
	c.Teams = c.Teams[:2]
	wantErrno(t, "Check of fewer teams", config.Check(c), api.ErrTeam)
	m := exampleTeam()
	m.Picks = m.Picks[:0]
	wantTeam(t, "a team without picks", exampleFloor(), 0, m, api.ErrTeam)
	wantDecoded(t, "fewer bytes", gapBytes()[:20], api.Config{}, api.ErrShort)
}

// scramble changes all memory that a config reaches, also behind the lengths.
func scramble(c api.Config) {
	for _, l := range [][]uint8{c.Floor.Cells, c.Slices} {
		for i := range l[:cap(l)] {
			l[:cap(l)][i] ^= 0x55
		}
	}
	for t := range c.Teams {
		for _, l := range listsOf(&c.Teams[t]) {
			scrambleInts((*l)[:cap(*l)])
		}
	}
	clear(c.Teams[:cap(c.Teams)])
}

// scrambleInts changes all numbers of a list.
func scrambleInts(l []int) {
	for i := range l {
		l[i] = -7
	}
}

// P1 (R3): results share no memory with arguments.
func TestResultsAreNewMemory(t *testing.T) {
	for _, original := range validConfigs() {
		c, _ := roomyConfig(original)
		for tenant, m := range c.Teams {
			spots := config.Spots(m)
			scrambleInts(spots[:cap(spots)])
			if isThere(c, tenant) {
				scramble(only(t, c, tenant))
			}
		}
		tenants, _ := config.Tenants(c)
		scrambleInts(tenants[:cap(tenants)])
		b := encoded(t, c)
		first, _ := config.Decode(b)
		second, _ := config.Decode(b)
		scramble(first)
		wantConfig(t, "the other result of Decode", second, api.OK, original, api.OK)
		clear(b[:cap(b)])
		wantConfig(t, "Decode after a change of the bytes", second, api.OK, original, api.OK)
		wantConfig(t, "the argument", c, api.OK, original, api.OK)
	}
}

// appendToEach writes behind the lengths of a config's slices, as far as their capacities reach.
func appendToEach(c api.Config) {
	for t := range c.Teams {
		for _, l := range listsOf(&c.Teams[t]) {
			_ = append(*l, -9, -9, -9, -9)
		}
	}
	_ = append(c.Floor.Cells, 99, 99, 99)
	_ = append(c.Slices, 99, 99, 99)
}

// P1 (R3): the parts of one result share no memory, also behind their lengths.
func TestPartsOfAResultShareNoMemory(t *testing.T) {
	for _, original := range validConfigs() {
		c, e := config.Decode(encoded(t, original))
		appendToEach(c)
		wantConfig(t, "what was decoded", c, e, original, api.OK)
		for tenant := range original.Teams {
			if isThere(original, tenant) {
				o := only(t, original, tenant)
				want := copied(o)
				appendToEach(o)
				wantConfig(t, "a projection", o, api.OK, want, api.OK)
			}
		}
	}
}

// P1 (R3): nothing is kept from call to call.
func TestCallsAreIndependent(t *testing.T) {
	for range 3 {
		wantTeam(t, "the example", exampleFloor(), 0, exampleTeam(), api.OK)
		o := only(t, exampleConfig(), 0)
		scramble(o)
		wantDecoded(t, "Decode", gapBytes(), gapConfig(), api.OK)
		wantDecoded(t, "Decode of a beginning", gapBytes()[:30], api.Config{}, api.ErrShort)
		wantConfig(t, "Only", only(t, loneConfig(), 0), api.OK, loneConfig(), api.OK)
	}
}

// emptied returns a config in which empty slices are not nil.
func emptied(c api.Config) api.Config {
	c = copied(c)
	for t := range c.Teams {
		for _, l := range listsOf(&c.Teams[t]) {
			if len(*l) == 0 {
				*l = []int{}
			}
		}
	}
	return c
}

// P1 (R4): nil and empty slices are the same.
func TestNilAndEmpty(t *testing.T) {
	for _, nils := range []api.Config{gapConfig(), lastConfig(), tailConfig()} {
		c := emptied(nils)
		if !config.Same(c, nils) || !config.Same(nils, c) {
			t.Errorf("Same(%v, %v) is false", c, nils)
		}
		wantErrno(t, "Check", config.Check(c), api.OK)
		wantBytes(t, "Encode", encoded(t, c), api.OK, encoded(t, nils), api.OK)
		tenants, e := config.Tenants(c)
		want, _ := config.Tenants(nils)
		wantInts(t, "Tenants", tenants, e, want, api.OK)
		wantConfig(t, "Only", only(t, c, want[0]), api.OK, only(t, nils, want[0]), api.OK)
	}
	empty := api.Config{Floor: api.Floor{Cells: []uint8{}}, Slices: []uint8{}, Teams: []api.Team{}}
	if !config.Same(empty, api.Config{}) || !config.Same(api.Config{}, empty) {
		t.Error("Same of nil and empty slices is false")
	}
	wantErrno(t, "Check", config.Check(empty), api.ErrFloor)
	wantDecoded(t, "Decode of empty bytes", []byte{}, api.Config{}, api.ErrShort)
	absent := api.Team{Homes: []int{}, Picks: []int{}, Drops: []int{}}
	wantTeam(t, "an absent team", exampleFloor(), 1, absent, api.OK)
}

package config_test

import (
	"slices"
	"testing"

	"dunnage/api"
	"dunnage/config"
)

// wantTeam checks what CheckTeam returns.
func wantTeam(t *testing.T, what string, f api.Floor, tenant int, m api.Team, want api.Errno) {
	t.Helper()
	if e := config.CheckTeam(f, tenant, m); e != want {
		t.Errorf("CheckTeam of %s: tenant %d, %v: %d, want %d", what, tenant, m, e, want)
	}
}

// numbersOf returns the numbers of a team beside its spots, and the greatest value of each of them.
func numbersOf(m *api.Team) (numbers []*int, limits []int) {
	return []*int{&m.Load, &m.Unload, &m.Queue, &m.Quota, &m.Window}, []int{8, 8, 8, 16, 64}
}

// listsOf returns the lists of a team's spots.
func listsOf(m *api.Team) []*[]int { return []*[]int{&m.Homes, &m.Picks, &m.Drops} }

// spotOf returns the spot with an index.
func spotOf(m *api.Team, i int) *int {
	for _, l := range listsOf(m) {
		if i < len(*l) {
			return &(*l)[i]
		}
		i -= len(*l)
	}
	return nil
}

// P3.1: Absent, of all teams.
func TestAbsent(t *testing.T) {
	if !config.Absent(api.Team{}) || !config.Absent(api.Team{Homes: []int{}, Picks: []int{}, Drops: []int{}}) {
		t.Error("a team without anything is not absent")
	}
	if config.Absent(exampleTeam()) {
		t.Error("a valid team is absent")
	}
	for i := range 3 {
		for _, spots := range [][]int{{0}, {-1}, {0, 0, 0, 0}} {
			var m api.Team
			*listsOf(&m)[i] = spots
			if config.Absent(m) {
				t.Errorf("%v is absent", m)
			}
		}
	}
	for i := range 5 {
		for _, n := range append([]int{1, -1, 65}, hugeNumbers...) {
			var m api.Team
			numbers, _ := numbersOf(&m)
			*numbers[i] = n
			if config.Absent(m) {
				t.Errorf("%v is absent", m)
			}
		}
	}
}

// P3.1: Spots, of all teams.
func TestSpots(t *testing.T) {
	for _, x := range []struct {
		m    api.Team
		want []int
	}{
		{api.Team{}, nil},
		{api.Team{Load: 7}, nil},
		{exampleTeam(), []int{0, 2, 3}},
		{fullConfig().Teams[1], []int{21, 17, 19, 25, 26, 18, 31, 29, 20}},
		{api.Team{Homes: []int{9, -1}, Picks: []int{}, Drops: []int{9, 9, 64, hugeNumbers[0], 3}}, []int{9, -1, 9, 9, 64, hugeNumbers[0], 3}},
		{api.Team{Picks: []int{5}}, []int{5}},
	} {
		wantInts(t, "Spots", config.Spots(x.m), api.OK, x.want, api.OK)
	}
}

// P3.1: CheckTeam, by the document's examples.
func TestCheckTeam(t *testing.T) {
	f := exampleFloor()
	wantTeam(t, "the example", f, 0, exampleTeam(), api.OK)
	for _, drop := range append([]int{2, 0, 1, 5, 6, -1, 64}, hugeNumbers...) {
		m := exampleTeam()
		m.Drops[0] = drop
		wantTeam(t, "another drop", f, 0, m, api.ErrTeam)
	}
	wantTeam(t, "the example for tenant 1", f, 1, exampleTeam(), api.ErrTeam)
	wantTeam(t, "the example for tenant 2", f, 2, exampleTeam(), api.ErrTeam)
	wantTeam(t, "the example for tenant 3", f, 3, exampleTeam(), api.ErrArg)
	wantTeam(t, "an absent team", f, 0, api.Team{}, api.OK)
	wantTeam(t, "an absent team", f, 2, api.Team{Homes: []int{}, Picks: []int{}, Drops: []int{}}, api.OK)
	wantTeam(t, "only Load", f, 0, api.Team{Load: 1}, api.ErrTeam)
	for _, c := range validConfigs() {
		for tenant, m := range c.Teams {
			wantTeam(t, "a team of a valid config", c.Floor, tenant, m, api.OK)
		}
	}
}

// P3.1: the order of CheckTeam's errors.
func TestCheckTeamErrors(t *testing.T) {
	bad := exampleFloor()
	bad.Cells[1] = 4
	invalid := exampleTeam()
	invalid.Load = 9
	for _, f := range []api.Floor{bad, {}, {W: 3, H: 2}, {W: 1 << 32, H: 1 << 32}} {
		for _, tenant := range []int{0, -1, 3} {
			for _, m := range []api.Team{exampleTeam(), {}, invalid} {
				wantTeam(t, "a bad floor", f, tenant, m, api.ErrFloor)
			}
		}
	}
	for _, tenant := range append([]int{-2, -1, 3, 4}, hugeNumbers...) {
		for _, m := range []api.Team{exampleTeam(), {}, invalid} {
			wantTeam(t, "no tenant", exampleFloor(), tenant, m, api.ErrArg)
		}
	}
	wantTeam(t, "an invalid team", exampleFloor(), 0, invalid, api.ErrTeam)
}

// P3.1: the numbers of a valid team.
func TestTeamNumbers(t *testing.T) {
	_, limits := numbersOf(&api.Team{})
	for i, limit := range limits {
		for _, n := range append([]int{-1, 0, 1, 2, limit - 1, limit, limit + 1, 65, 128}, hugeNumbers...) {
			m := exampleTeam()
			numbers, _ := numbersOf(&m)
			*numbers[i] = n
			want := api.ErrTeam
			if n >= 1 && n <= limit {
				want = api.OK
			}
			wantTeam(t, "another number", exampleFloor(), 0, m, want)
		}
	}
}

// P3.1: how many spots of each kind a valid team has.
func TestHowManySpots(t *testing.T) {
	f := api.Floor{W: 8, H: 8, Cells: slices.Repeat([]uint8{2}, 64)}
	places := make([]int, 64)
	for p := range places {
		places[p] = 63 - p
	}
	for homes := range 6 {
		for picks := range 6 {
			for drops := range 6 {
				m := exampleTeam()
				m.Homes, m.Picks, m.Drops = places[:homes], places[20:20+picks], places[40:40+drops]
				want := api.ErrTeam
				if homes >= 1 && homes <= 3 && picks >= 1 && picks <= 3 && drops >= 1 && drops <= 3 {
					want = api.OK
				}
				wantTeam(t, "other numbers of spots", f, 1, m, want)
			}
		}
	}
	m := exampleTeam()
	m.Homes = slices.Repeat([]int{0}, 100000)
	wantTeam(t, "many homes", f, 1, m, api.ErrTeam)
}

// P3.5: the spots of a valid team are different private cells, and no two tenants have one in common.
func TestSpotsOfValidTeams(t *testing.T) {
	for _, c := range validConfigs() {
		owners := map[int]int{}
		for tenant, m := range c.Teams {
			spots := config.Spots(m)
			if !config.Absent(m) && (len(spots) < 3 || len(spots) > 9) {
				t.Errorf("%d spots: %v", len(spots), m)
			}
			for _, p := range spots {
				if other, taken := owners[p]; taken || c.Floor.Cells[p] != uint8(tenant+1) {
					t.Errorf("the spot %d of tenant %d is taken by %d, or another one's", p, tenant, other)
				}
				owners[p] = tenant
			}
		}
	}
}

// reordered calls a function with all orders of three elements or fewer.
func reordered(l []int, do func(l []int)) {
	if len(l) < 2 {
		do(l)
		return
	}
	for i := range l {
		rest := append(slices.Clone(l[:i]), l[i+1:]...)
		reordered(rest, func(tail []int) { do(append([]int{l[i]}, tail...)) })
	}
}

// P3.5: the order of Homes, Picks and Drops decides nothing.
func TestOrderOfSpots(t *testing.T) {
	c := fullConfig()
	valid := c.Teams[0]
	twice := copiedTeam(valid)
	twice.Drops[2] = twice.Homes[0]
	foreign := copiedTeam(valid)
	foreign.Picks[1] = 17
	for _, x := range []struct {
		m    api.Team
		want api.Errno
	}{{valid, api.OK}, {twice, api.ErrTeam}, {foreign, api.ErrTeam}} {
		reordered(x.m.Homes, func(homes []int) {
			reordered(x.m.Picks, func(picks []int) {
				reordered(x.m.Drops, func(drops []int) {
					m := x.m
					m.Homes, m.Picks, m.Drops = homes, picks, drops
					wantTeam(t, "another order", c.Floor, 0, m, x.want)
				})
			})
		})
	}
}

// P3.5: a spot is replaced by each place, and by numbers that are no places.
func TestReplacedSpot(t *testing.T) {
	for _, c := range validConfigs() {
		for tenant, m := range c.Teams {
			for i, old := range config.Spots(m) {
				for p := -2; p < 70; p++ {
					changedTeam := copiedTeam(m)
					*spotOf(&changedTeam, i) = p
					own := p >= 0 && p < len(c.Floor.Cells) && c.Floor.Cells[p] == uint8(tenant+1)
					want := api.ErrTeam
					if own && (p == old || !slices.Contains(config.Spots(m), p)) {
						want = api.OK
					}
					wantTeam(t, "another spot", c.Floor, tenant, changedTeam, want)
					wantErrno(t, "Check with another spot", config.Check(withTeam(c, tenant, changedTeam)), want)
				}
			}
		}
	}
}

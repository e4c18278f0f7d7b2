package floor_test

import (
	"slices"
	"testing"

	"dunnage/api"
	"dunnage/floor"
)

// P2.3: Check.
func TestCheck(t *testing.T) {
	wantErrno(t, "the example", floor.Check(exampleFloor()), api.OK)
	eachFloor(func(f api.Floor) { wantErrno(t, "a valid floor", floor.Check(f), api.OK) })
	for what, f := range badFloors() {
		wantErrno(t, what, floor.Check(f), api.ErrFloor)
	}
	for value := range 256 {
		want := api.ErrFloor
		if value == 0 || value == 255 || value >= 1 && value <= 3 {
			want = api.OK
		}
		for p := range 6 {
			f := exampleFloor()
			f.Cells[p] = uint8(value)
			wantErrno(t, "a floor with one other cell", floor.Check(f), want)
		}
	}
}

// P2.3: the sides and the number of cells that Check requires.
func TestCheckSides(t *testing.T) {
	for w := -1; w <= 10; w++ {
		for h := -1; h <= 10; h++ {
			for many := range 102 {
				want := api.ErrFloor
				if w >= 2 && w <= 8 && h >= 2 && h <= 8 && many == w*h {
					want = api.OK
				}
				if e := floor.Check(api.Floor{W: w, H: h, Cells: make([]uint8, many)}); e != want {
					t.Errorf("Check of %d x %d with %d cells: %d, want %d", w, h, many, e, want)
				}
			}
		}
	}
	for _, bad := range badSides {
		wantErrno(t, "a bad width", floor.Check(api.Floor{W: bad, H: 4, Cells: make([]uint8, 16)}), api.ErrFloor)
		wantErrno(t, "a bad height", floor.Check(api.Floor{W: 4, H: bad, Cells: make([]uint8, 16)}), api.ErrFloor)
	}
}

// P2.3: Owner.
func TestOwner(t *testing.T) {
	for p, want := range []int{0, api.OwnerAisle, 1, api.OwnerWall, api.OwnerAisle, 0} {
		owner, e := floor.Owner(exampleFloor(), p)
		wantInt(t, "Owner", owner, e, want, api.OK)
	}
	wants := map[uint8]int{0: -1, 1: 0, 2: 1, 3: 2, 255: -2}
	eachFloor(func(f api.Floor) {
		for p, cell := range f.Cells {
			owner, e := floor.Owner(f, p)
			wantInt(t, "Owner", owner, e, wants[cell], api.OK)
		}
		for _, p := range append([]int{-1, len(f.Cells), 8*8 + 1}, hugeNumbers...) {
			owner, e := floor.Owner(f, p)
			wantInt(t, "Owner of no place", owner, e, 0, api.ErrArg)
		}
	})
	for what, f := range badFloors() {
		for _, p := range []int{0, -1, 100} {
			owner, e := floor.Owner(f, p)
			wantInt(t, what, owner, e, 0, api.ErrFloor)
		}
	}
}

// P2.3: Private.
func TestPrivate(t *testing.T) {
	for tenant, want := range [][]int{{0, 5}, {2}, {}} {
		l, e := floor.Private(exampleFloor(), tenant)
		wantInts(t, "Private", l, e, want, api.OK)
	}
	for _, tenant := range append([]int{-2, -1, 3, 4, 254, 255, 256}, hugeNumbers...) {
		l, e := floor.Private(exampleFloor(), tenant)
		wantInts(t, "Private of no tenant", l, e, nil, api.ErrArg)
	}
	for what, f := range badFloors() {
		for _, tenant := range []int{0, -1, 3} {
			l, e := floor.Private(f, tenant)
			wantInts(t, what, l, e, nil, api.ErrFloor)
		}
	}
}

// P2.3: Aisles.
func TestAisles(t *testing.T) {
	l, e := floor.Aisles(exampleFloor())
	wantInts(t, "Aisles", l, e, []int{1, 4}, api.OK)
	l, e = floor.Aisles(api.Floor{W: 2, H: 2, Cells: make([]uint8, 4)})
	wantInts(t, "Aisles of walls", l, e, nil, api.OK)
	for what, f := range badFloors() {
		l, e := floor.Aisles(f)
		wantInts(t, what, l, e, nil, api.ErrFloor)
	}
}

// P2.8: each place is a wall, an aisle, or a private cell of one tenant, and is listed as what it is.
func TestLists(t *testing.T) {
	eachFloor(func(f api.Floor) {
		wants := map[int][]int{}
		for p, owner := range owners(t, f) {
			if owner < api.OwnerAisle || owner >= api.MaxTeams {
				t.Errorf("the owner of %d is %d", p, owner)
			}
			wants[owner] = append(wants[owner], p)
		}
		listed := len(wants[api.OwnerWall])
		for tenant := range api.MaxTeams {
			l, e := floor.Private(f, tenant)
			wantInts(t, "Private", l, e, wants[tenant], api.OK)
			listed += len(l)
		}
		l, e := floor.Aisles(f)
		wantInts(t, "Aisles", l, e, wants[api.OwnerAisle], api.OK)
		if listed += len(l); listed != len(f.Cells) {
			t.Errorf("%d places are walls or listed, want %d", listed, len(f.Cells))
		}
	})
}

// P2.8: what a cell contains does not change the owner of another one.
func TestOwnersAreIndependent(t *testing.T) {
	eachGrid(func(w, h int) {
		f := mixedFloor(w, h, 9)
		before := owners(t, f)
		for p := range f.Cells {
			for _, value := range []uint8{0, 1, 2, 3, 255} {
				other := api.Floor{W: w, H: h, Cells: slices.Clone(f.Cells)}
				other.Cells[p] = value
				after := owners(t, other)
				after[p] = before[p]
				wantInts(t, "the owners of the other cells", after, api.OK, before, api.OK)
			}
		}
	})
}

// exchanged returns a floor whose rows are the columns of another one.
func exchanged(f api.Floor) api.Floor {
	cells := make([]uint8, len(f.Cells))
	for p, cell := range f.Cells {
		cells[p%f.W*f.H+p/f.W] = cell
	}
	return api.Floor{W: f.H, H: f.W, Cells: cells}
}

// P2.8: exchanged rows and columns have the same owners and distances at the exchanged coordinates.
func TestExchangedRowsAndColumns(t *testing.T) {
	eachGrid(func(w, h int) {
		f := mixedFloor(w, h, 5)
		g := exchanged(f)
		there := make([]int, len(f.Cells))
		for p := range f.Cells {
			x, y := located(t, w, h, p)
			there[p], _ = floor.Place(h, w, y, x)
		}
		before, after := owners(t, f), owners(t, g)
		for p := range f.Cells {
			if before[p] != after[there[p]] {
				t.Errorf("%d x %d: the owner of %d is %d, and then %d", w, h, p, before[p], after[there[p]])
			}
			for q := range f.Cells {
				if far(t, w, h, p, q) != far(t, h, w, there[p], there[q]) {
					t.Errorf("%d x %d: the distance from %d to %d changes", w, h, p, q)
				}
			}
		}
	})
}

package floor_test

import (
	"math"
	"slices"
	"testing"

	"dunnage/api"
	"dunnage/floor"
)

// hugeNumbers are far out of each range, and so chosen that sums and products of them wrap around.
var hugeNumbers = []int{math.MinInt, math.MinInt + 1, math.MinInt + 4, -1 << 32, 1 << 32, 1<<32 + 2, 1 << 62, 1<<62 + 2, math.MaxInt - 1, math.MaxInt}

// badSides are numbers that are no valid sides.
var badSides = append([]int{-8, -2, -1, 0, 1, 9, 10, 16, 256 + 4}, hugeNumbers...)

// largestTicks are the last ticks of a uint64.
var largestTicks = []uint64{math.MaxUint64 - 16, math.MaxUint64 - 2, math.MaxUint64 - 1, math.MaxUint64}

// wantErrno checks an error number.
func wantErrno(t *testing.T, what string, got, want api.Errno) {
	t.Helper()
	if got != want {
		t.Errorf("%s: error %d, want %d", what, got, want)
	}
}

// wantInt checks a number and an error number.
func wantInt(t *testing.T, what string, got int, e api.Errno, want int, wantE api.Errno) {
	t.Helper()
	if got != want || e != wantE {
		t.Errorf("%s: %d, %d, want %d, %d", what, got, e, want, wantE)
	}
}

// wantInts checks a list and an error number.
func wantInts(t *testing.T, what string, got []int, e api.Errno, want []int, wantE api.Errno) {
	t.Helper()
	if !slices.Equal(got, want) || e != wantE {
		t.Errorf("%s: %v, %d, want %v, %d", what, got, e, want, wantE)
	}
}

// wantFloor checks a floor and an error number.
func wantFloor(t *testing.T, what string, got api.Floor, e api.Errno, want api.Floor, wantE api.Errno) {
	t.Helper()
	if got.W != want.W || got.H != want.H || !slices.Equal(got.Cells, want.Cells) || e != wantE {
		t.Errorf("%s: %v, %d, want %v, %d", what, got, e, want, wantE)
	}
}

// drawer returns a function that draws numbers below a limit, the same ones in each run.
func drawer(seed int) func(limit int) int {
	x := uint32(seed)
	return func(limit int) int {
		x = x*1664525 + 1013904223
		return int(x>>24) % limit
	}
}

// exampleFloor returns the floor of the document's examples.
func exampleFloor() api.Floor {
	return api.Floor{W: 3, H: 2, Cells: []uint8{1, 255, 2, 0, 255, 1}}
}

// mixedFloor returns a valid floor with all kinds of cells; another seed leads to other cells.
func mixedFloor(w, h, seed int) api.Floor {
	values := []uint8{api.CellWall, 1, 2, 3, api.CellAisle}
	draw := drawer(seed)
	cells := make([]uint8, w*h)
	for p := range cells {
		cells[p] = values[draw(len(values))]
	}
	return api.Floor{W: w, H: h, Cells: cells}
}

// eachGrid calls a function with all valid sides.
func eachGrid(do func(w, h int)) {
	for w := 2; w <= api.MaxSide; w++ {
		for h := 2; h <= api.MaxSide; h++ {
			do(w, h)
		}
	}
}

// eachFloor calls a function with floors of all valid sides: of one kind of cell, and of all kinds.
func eachFloor(do func(f api.Floor)) {
	eachGrid(func(w, h int) {
		for _, value := range []uint8{api.CellWall, 1, 2, 3, api.CellAisle} {
			do(api.Floor{W: w, H: h, Cells: slices.Repeat([]uint8{value}, w*h)})
		}
		for seed := range 5 {
			do(mixedFloor(w, h, 100*w+10*h+seed))
		}
	})
}

// badFloors returns floors that are not valid, by what is wrong with them.
func badFloors() map[string]api.Floor {
	cells := mixedFloor(8, 8, 1).Cells
	return map[string]api.Floor{
		"nothing":        {},
		"no cells":       {W: 3, H: 2},
		"a cell less":    {W: 3, H: 2, Cells: cells[:5]},
		"a cell more":    {W: 3, H: 2, Cells: cells[:7]},
		"one column":     {W: 1, H: 6, Cells: cells[:6]},
		"one row":        {W: 6, H: 1, Cells: cells[:6]},
		"nine columns":   {W: 9, H: 2, Cells: cells[:18]},
		"nine rows":      {W: 2, H: 9, Cells: cells[:18]},
		"negative sides": {W: -2, H: -3, Cells: cells[:6]},
		"the value 4":    {W: 3, H: 2, Cells: []uint8{1, 255, 4, 0, 255, 1}},
		"the value 254":  {W: 3, H: 2, Cells: []uint8{1, 255, 2, 0, 255, 254}},
		"a wrap to 0":    {W: 1 << 32, H: 1 << 32},
		"a wrap to 8":    {W: 4, H: 1<<62 + 2, Cells: cells[:8]},
		"a wrap to 6":    {W: math.MinInt + 3, H: 2, Cells: cells[:6]},
	}
}

// tables returns slice tables of all lengths with all kinds of entries.
func tables() [][]uint8 {
	var all [][]uint8
	draw := drawer(7)
	for period := 1; period <= api.MaxPeriod; period++ {
		for value := range uint8(4) {
			all = append(all, slices.Repeat([]uint8{value}, period))
		}
		for range 20 {
			l := make([]uint8, period)
			for i := range l {
				l[i] = uint8(draw(4))
			}
			all = append(all, l)
		}
	}
	return all
}

// badTables returns slice tables that are not valid.
func badTables() [][]uint8 {
	return [][]uint8{nil, {}, {4}, {255}, {1, 1, 0, 4}, {4, 1}, make([]uint8, 17), make([]uint8, 1000)}
}

// stepped returns the place after a step that is possible.
func stepped(t *testing.T, w, h, p, dir int) int {
	t.Helper()
	q, e := floor.Step(w, h, p, dir)
	wantErrno(t, "Step", e, api.OK)
	return q
}

// located returns the coordinates of a place.
func located(t *testing.T, w, h, p int) (x, y int) {
	t.Helper()
	x, y, e := floor.Locate(w, h, p)
	wantErrno(t, "Locate", e, api.OK)
	return x, y
}

// far returns the distance between two places.
func far(t *testing.T, w, h, p, q int) int {
	t.Helper()
	n, e := floor.Distance(w, h, p, q)
	wantErrno(t, "Distance", e, api.OK)
	return n
}

// owners returns the owners of all cells of a valid floor.
func owners(t *testing.T, f api.Floor) []int {
	t.Helper()
	var all []int
	for p := range f.Cells {
		owner, e := floor.Owner(f, p)
		wantErrno(t, "Owner", e, api.OK)
		all = append(all, owner)
	}
	return all
}

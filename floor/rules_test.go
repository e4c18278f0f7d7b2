package floor_test

import (
	"slices"
	"testing"

	"dunnage/api"
	"dunnage/floor"
)

// roomy returns a list with the same elements, and the longer array behind it.
func roomy(l []uint8) (part, behind []uint8) {
	behind = append(slices.Clone(l), 1, 255, 2, 0, 3, 77)
	return behind[:len(l)], behind
}

// P1 (R3): arguments are only read, also behind their length.
func TestArgumentsAreOnlyRead(t *testing.T) {
	eachFloor(func(f api.Floor) {
		cells, behind := roomy(f.Cells)
		before := slices.Clone(behind)
		f.Cells = cells
		floor.Check(f)
		floor.Owner(f, 1)
		floor.Private(f, 1)
		floor.Aisles(f)
		floor.Draw(f)
		if !slices.Equal(behind, before) {
			t.Errorf("the cells %v became %v", before, behind)
		}
	})
	for _, l := range tables() {
		part, behind := roomy(l)
		before := slices.Clone(behind)
		floor.CheckSlices(part)
		floor.SliceOwner(part, 7)
		floor.SliceLeft(part, 7, 1)
		floor.SliceWait(part, 7, 1)
		if !slices.Equal(behind, before) {
			t.Errorf("the table %v became %v", before, behind)
		}
	}
}

// The capacity of a slice has no cells and no entries.
func TestLengthsCount(t *testing.T) {
	f := exampleFloor()
	f.Cells = f.Cells[:5]
	wantErrno(t, "Check", floor.Check(f), api.ErrFloor)
	wantErrno(t, "CheckSlices", floor.CheckSlices(exampleTable()[:0]), api.ErrSlices)
	n, e := floor.SliceWait([]uint8{1, 0, 2}[:2], 0, 1)
	wantInt(t, "SliceWait", n, e, 0, api.ErrNone)
}

// P1 (R3): results are new memory, and nothing is kept from call to call.
func TestResultsAreNewMemory(t *testing.T) {
	f := exampleFloor()
	for range 2 {
		l, e := floor.Private(f, 0)
		wantInts(t, "Private", l, e, []int{0, 5}, api.OK)
		clear(l[:cap(l)])
		l, e = floor.Aisles(f)
		wantInts(t, "Aisles", l, e, []int{1, 4}, api.OK)
		clear(l[:cap(l)])
		g, e := floor.Parse(exampleText)
		wantFloor(t, "Parse", g, e, f, api.OK)
		clear(g.Cells[:cap(g.Cells)])
		floor.SliceWait([]uint8{3, 3, 3}, 1, 2)
	}
	wantFloor(t, "the argument", f, api.OK, exampleFloor(), api.OK)
	first, _ := floor.Parse(exampleText)
	second, _ := floor.Parse(exampleText)
	clear(first.Cells[:cap(first.Cells)])
	wantFloor(t, "the other result", second, api.OK, f, api.OK)
}

// P1 (R4): nil and empty slices are the same.
func TestNilAndEmpty(t *testing.T) {
	for _, cells := range [][]uint8{nil, {}} {
		wantErrno(t, "Check", floor.Check(api.Floor{Cells: cells}), api.ErrFloor)
		wantErrno(t, "Check", floor.Check(api.Floor{W: 2, H: 2, Cells: cells}), api.ErrFloor)
		wantErrno(t, "CheckSlices", floor.CheckSlices(cells), api.ErrSlices)
	}
}

package floor_test

import (
	"math"
	"testing"

	"dunnage/api"
	"dunnage/floor"
)

// P2.1: Cells.
func TestCells(t *testing.T) {
	eachGrid(func(w, h int) {
		n, e := floor.Cells(w, h)
		wantInt(t, "Cells", n, e, w*h, api.OK)
	})
	for _, bad := range badSides {
		for _, s := range [][2]int{{bad, 2}, {bad, 8}, {2, bad}, {8, bad}, {bad, bad}} {
			n, e := floor.Cells(s[0], s[1])
			wantInt(t, "Cells with a bad side", n, e, 0, api.ErrArg)
		}
	}
}

// P2.1: Locate.
func TestLocate(t *testing.T) {
	eachGrid(func(w, h int) {
		p := 0
		for y := range h {
			for x := range w {
				gotX, gotY, e := floor.Locate(w, h, p)
				if gotX != x || gotY != y || e != api.OK {
					t.Errorf("Locate(%d, %d, %d): %d, %d, %d, want %d, %d", w, h, p, gotX, gotY, e, x, y)
				}
				p++
			}
		}
		for _, p := range append([]int{-w, -1, w * h, w*h + 1, 8*8 + 1}, hugeNumbers...) {
			x, y, e := floor.Locate(w, h, p)
			if x != 0 || y != 0 || e != api.ErrArg {
				t.Errorf("Locate(%d, %d, %d): %d, %d, %d", w, h, p, x, y, e)
			}
		}
	})
	for _, bad := range badSides {
		for _, s := range [][2]int{{bad, 4}, {4, bad}} {
			x, y, e := floor.Locate(s[0], s[1], 1)
			if x != 0 || y != 0 || e != api.ErrArg {
				t.Errorf("Locate(%d, %d, 1): %d, %d, %d", s[0], s[1], x, y, e)
			}
		}
	}
}

// P2.1: Place.
func TestPlace(t *testing.T) {
	eachGrid(func(w, h int) {
		want := 0
		for y := range h {
			for x := range w {
				p, e := floor.Place(w, h, x, y)
				wantInt(t, "Place", p, e, want, api.OK)
				want++
			}
		}
		for _, c := range [][2]int{{w, 0}, {0, h}, {w, h}, {-1, 0}, {0, -1}, {-1, 1}, {w, h - 1}, {w - 1, h}} {
			p, e := floor.Place(w, h, c[0], c[1])
			wantInt(t, "Place with bad coordinates", p, e, 0, api.ErrArg)
		}
		for _, huge := range hugeNumbers {
			p, e := floor.Place(w, h, huge, 1)
			wantInt(t, "Place with a huge x", p, e, 0, api.ErrArg)
			p, e = floor.Place(w, h, 1, huge)
			wantInt(t, "Place with a huge y", p, e, 0, api.ErrArg)
		}
	})
	for _, bad := range badSides {
		p, e := floor.Place(bad, 4, 0, 0)
		wantInt(t, "Place with a bad width", p, e, 0, api.ErrArg)
		p, e = floor.Place(4, bad, 0, 0)
		wantInt(t, "Place with a bad height", p, e, 0, api.ErrArg)
	}
}

// P2.2: Step.
func TestStep(t *testing.T) {
	for _, x := range []struct {
		w, h, p, dir, q int
		e               api.Errno
	}{
		{5, 4, 0, api.East, 1, api.OK},
		{5, 4, 0, api.South, 5, api.OK},
		{5, 4, 0, api.North, 0, api.ErrNone},
		{5, 4, 0, api.West, 0, api.ErrNone},
		{5, 4, 19, api.North, 14, api.OK},
		{5, 4, 19, api.West, 18, api.OK},
		{5, 4, 19, api.South, 0, api.ErrNone},
		{5, 4, 19, api.East, 0, api.ErrNone},
		{5, 4, 4, api.East, 0, api.ErrNone},
		{5, 4, 5, api.West, 0, api.ErrNone},
		{5, 4, 7, api.North, 2, api.OK},
		{5, 4, 0, 4, 0, api.ErrArg},
		{5, 4, 0, -1, 0, api.ErrArg},
		{5, 4, 7, 256, 0, api.ErrArg},
		{5, 4, -1, api.East, 0, api.ErrArg},
		{5, 4, 20, api.North, 0, api.ErrArg},
		{5, 4, 20, api.South, 0, api.ErrArg},
		{1, 4, 0, api.South, 0, api.ErrArg},
		{5, 9, 0, api.East, 0, api.ErrArg},
		{5, 1, 0, api.North, 0, api.ErrArg},
	} {
		q, e := floor.Step(x.w, x.h, x.p, x.dir)
		if q != x.q || e != x.e {
			t.Errorf("Step(%d, %d, %d, %d): %d, %d, want %d, %d", x.w, x.h, x.p, x.dir, q, e, x.q, x.e)
		}
	}
	for _, huge := range hugeNumbers {
		for _, a := range [][4]int{{huge, 4, 1, 1}, {4, huge, 1, 1}, {4, 4, huge, 1}, {4, 4, 1, huge}} {
			q, e := floor.Step(a[0], a[1], a[2], a[3])
			wantInt(t, "Step with a huge number", q, e, 0, api.ErrArg)
		}
	}
}

// P2.2: Step changes one coordinate by one, and leads nowhere at the edge.
func TestStepEverywhere(t *testing.T) {
	moves := [][2]int{api.North: {0, -1}, api.East: {1, 0}, api.South: {0, 1}, api.West: {-1, 0}}
	eachGrid(func(w, h int) {
		for p := range w * h {
			x, y := located(t, w, h, p)
			for dir, move := range moves {
				q, e := floor.Step(w, h, p, dir)
				if x+move[0] < 0 || x+move[0] == w || y+move[1] < 0 || y+move[1] == h {
					wantInt(t, "Step beyond the edge", q, e, 0, api.ErrNone)
					continue
				}
				wantInt(t, "Step", q, e, p+move[0]+w*move[1], api.OK)
			}
		}
	})
}

// P2.2: Adjacent reports true for exactly the places to which a step leads.
func TestAdjacent(t *testing.T) {
	for _, x := range []struct {
		p, q int
		want bool
	}{{13, 18, true}, {18, 13, true}, {4, 5, false}, {0, 0, false}, {0, 1, true}, {0, 6, false}, {0, 2, false}, {0, 10, false}} {
		is, e := floor.Adjacent(5, 4, x.p, x.q)
		if is != x.want || e != api.OK {
			t.Errorf("Adjacent(5, 4, %d, %d): %v, %d", x.p, x.q, is, e)
		}
	}
	eachGrid(func(w, h int) {
		for p := range w * h {
			near := map[int]bool{}
			for dir := range 4 {
				if q, e := floor.Step(w, h, p, dir); e == api.OK {
					near[q] = true
				}
			}
			for q := range w * h {
				is, e := floor.Adjacent(w, h, p, q)
				if is != near[q] || e != api.OK {
					t.Errorf("Adjacent(%d, %d, %d, %d): %v, %d", w, h, p, q, is, e)
				}
			}
		}
	})
}

// walked returns the minimum numbers of steps from a place to all places, as a search finds them.
func walked(w, h, p int) []int {
	steps := make([]int, w*h)
	seen := map[int]bool{p: true}
	for list := []int{p}; len(list) > 0; list = list[1:] {
		for dir := range 4 {
			q, e := floor.Step(w, h, list[0], dir)
			if e == api.OK && !seen[q] {
				seen[q] = true
				steps[q] = steps[list[0]] + 1
				list = append(list, q)
			}
		}
	}
	return steps
}

// P2.2: Distance is the minimum number of steps.
func TestDistance(t *testing.T) {
	n, e := floor.Distance(5, 4, 0, 19)
	wantInt(t, "the example", n, e, 7, api.OK)
	eachGrid(func(w, h int) {
		for p := range w * h {
			for q, want := range walked(w, h, p) {
				n, e := floor.Distance(w, h, p, q)
				wantInt(t, "Distance", n, e, want, api.OK)
			}
		}
	})
}

// P2.2: the errors of Adjacent and Distance.
func TestPairErrors(t *testing.T) {
	bad := [][4]int{{5, 4, -1, 0}, {5, 4, 0, -1}, {5, 4, 20, 19}, {5, 4, 19, 20}, {5, 4, -1, -1}, {5, 4, 20, 20}, {5, 4, 21, 22}}
	for _, n := range badSides {
		bad = append(bad, [4]int{n, 4, 0, 1}, [4]int{4, n, 0, 1}, [4]int{n, n, 1, 1})
	}
	for _, n := range hugeNumbers {
		bad = append(bad, [4]int{5, 4, n, 1}, [4]int{5, 4, 1, n}, [4]int{5, 4, n, n}, [4]int{8, 8, n, math.MaxInt})
	}
	for _, a := range bad {
		is, e := floor.Adjacent(a[0], a[1], a[2], a[3])
		if is || e != api.ErrArg {
			t.Errorf("Adjacent%v: %v, %d", a, is, e)
		}
		n, e := floor.Distance(a[0], a[1], a[2], a[3])
		if n != 0 || e != api.ErrArg {
			t.Errorf("Distance%v: %d, %d", a, n, e)
		}
	}
}

// P2.7: Locate and Place are inverse to each other.
func TestLocateAndPlace(t *testing.T) {
	eachGrid(func(w, h int) {
		for p := range w * h {
			x, y := located(t, w, h, p)
			q, e := floor.Place(w, h, x, y)
			wantInt(t, "Place of Locate", q, e, p, api.OK)
		}
		for x := range w {
			for y := range h {
				p, _ := floor.Place(w, h, x, y)
				gotX, gotY := located(t, w, h, p)
				if gotX != x || gotY != y {
					t.Errorf("Locate of Place(%d, %d, %d, %d): %d, %d", w, h, x, y, gotX, gotY)
				}
			}
		}
	})
}

// P2.7: a step is undone by the opposite one; a step along a row and one along a column lead to the same place in either order.
func TestStepsInEitherOrder(t *testing.T) {
	eachGrid(func(w, h int) {
		for p := range w * h {
			for dir := range 4 {
				q, e := floor.Step(w, h, p, dir)
				if e != api.OK {
					continue
				}
				if back := stepped(t, w, h, q, (dir+2)%4); back != p {
					t.Errorf("%d x %d: a step in direction %d from %d is undone to %d", w, h, dir, p, back)
				}
				for _, turn := range []int{(dir + 1) % 4, (dir + 3) % 4} {
					r, e := floor.Step(w, h, p, turn)
					if e != api.OK {
						continue
					}
					if stepped(t, w, h, q, turn) != stepped(t, w, h, r, dir) {
						t.Errorf("%d x %d: steps in directions %d and %d from %d", w, h, dir, turn, p)
					}
				}
			}
		}
	})
}

// P2.7: after any steps the place has the coordinates that the steps add up to.
func TestCoordinatesAfterSteps(t *testing.T) {
	eachGrid(func(w, h int) {
		for p := range w * h {
			x, y := located(t, w, h, p)
			q, draw := p, drawer(p)
			for range 60 {
				dir := draw(4)
				next, e := floor.Step(w, h, q, dir)
				if e != api.OK {
					continue
				}
				q = next
				switch dir {
				case api.North:
					y--
				case api.East:
					x++
				case api.South:
					y++
				case api.West:
					x--
				}
			}
			gotX, gotY := located(t, w, h, q)
			if gotX != x || gotY != y {
				t.Errorf("%d x %d: steps from %d lead to %d, %d, want %d, %d", w, h, p, gotX, gotY, x, y)
			}
		}
	})
}

// P2.7: the laws of distances between two and three places.
func TestDistancesOfPlaces(t *testing.T) {
	eachGrid(func(w, h int) {
		var table [api.MaxCells][api.MaxCells]int
		for p := range w * h {
			for q := range w * h {
				table[p][q] = far(t, w, h, p, q)
			}
		}
		for p := range w * h {
			for q := range w * h {
				if (table[p][q] == 0) != (p == q) || table[p][q] != table[q][p] {
					t.Errorf("%d x %d: the distances between %d and %d are %d and %d", w, h, p, q, table[p][q], table[q][p])
				}
				for r := range w * h {
					if table[p][r] > table[p][q]+table[q][r] {
						t.Errorf("%d x %d: the way from %d to %d is shorter over %d", w, h, p, r, q)
					}
				}
			}
		}
	})
}

// P2.7: each step changes the distance to any place by 1, and from every other place some step reduces it.
func TestDistancesAfterSteps(t *testing.T) {
	eachGrid(func(w, h int) {
		for p := range w * h {
			for goal := range w * h {
				before, nearer := far(t, w, h, p, goal), 0
				for dir := range 4 {
					q, e := floor.Step(w, h, p, dir)
					if e != api.OK {
						continue
					}
					after := far(t, w, h, q, goal)
					if after != before+1 && after != before-1 {
						t.Errorf("%d x %d: a step from %d to %d changes the distance to %d from %d to %d", w, h, p, q, goal, before, after)
					}
					if after < before {
						nearer++
					}
				}
				if (nearer > 0) != (p != goal) {
					t.Errorf("%d x %d: %d steps from %d lead nearer to %d", w, h, nearer, p, goal)
				}
			}
		}
	})
}

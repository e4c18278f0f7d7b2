package floor

import "dunnage/api"

// The directions of a step, in the order of api's numbers for them.
const (
	north = iota
	east
	south
	west
	directions
)

// minSide is the least width, and the least height, of a floor.
const minSide = 2

// grid is the places of a floor, whatever its cells contain.
type grid struct{ w, h int }

// Cells returns the number of places.
func Cells(w, h int) (int, api.Errno) {
	g, e := gridOf(w, h)
	if e != api.OK {
		return 0, e
	}
	return g.size(), api.OK
}

// Locate returns the coordinates of a place.
func Locate(w, h, p int) (x, y int, e api.Errno) {
	g, e := gridOf(w, h, p)
	if e != api.OK {
		return 0, 0, e
	}
	x, y = g.locate(p)
	return x, y, api.OK
}

// Place returns the place with some coordinates.
func Place(w, h, x, y int) (int, api.Errno) {
	g, e := gridOf(w, h)
	if e != api.OK {
		return 0, e
	}
	p, exists := g.place(x, y)
	if !exists {
		return 0, api.ErrArg
	}
	return p, api.OK
}

// Step returns the place to which a step leads.
func Step(w, h, p, dir int) (int, api.Errno) {
	g, e := gridOf(w, h, p)
	if e != api.OK {
		return 0, e
	}
	if dir < 0 || dir >= directions {
		return 0, api.ErrArg
	}
	q, exists := g.step(p, dir)
	if !exists {
		return 0, api.ErrNone
	}
	return q, api.OK
}

// Adjacent reports whether a step leads from one place to another.
func Adjacent(w, h, p, q int) (bool, api.Errno) {
	n, e := Distance(w, h, p, q)
	if e != api.OK {
		return false, e
	}
	return n == 1, api.OK
}

// Distance returns the distance between two places.
func Distance(w, h, p, q int) (int, api.Errno) {
	g, e := gridOf(w, h, p, q)
	if e != api.OK {
		return 0, e
	}
	return g.distance(p, q), api.OK
}

// gridOf returns the grid with some sides, or ErrArg unless they are valid and some numbers are places of it.
func gridOf(w, h int, places ...int) (grid, api.Errno) {
	g := grid{w: w, h: h}
	if !g.valid() {
		return grid{}, api.ErrArg
	}
	for _, p := range places {
		if !g.has(p) {
			return grid{}, api.ErrArg
		}
	}
	return g, api.OK
}

// valid reports whether the sides are valid; the other methods need such sides.
func (g grid) valid() bool { return isSide(g.w) && isSide(g.h) }

// size returns the number of places.
func (g grid) size() int { return g.w * g.h }

// has reports whether a number is a place.
func (g grid) has(p int) bool { return p >= 0 && p < g.size() }

// locate returns the coordinates of a place.
func (g grid) locate(p int) (x, y int) { return p % g.w, p / g.w }

// place returns the place with some coordinates, and whether there is one.
func (g grid) place(x, y int) (int, bool) {
	if x < 0 || x >= g.w || y < 0 || y >= g.h {
		return 0, false
	}
	return y*g.w + x, true
}

// step returns the place to which a step leads, and whether there is one.
func (g grid) step(p, dir int) (int, bool) {
	x, y := g.locate(p)
	switch dir {
	case north:
		y--
	case east:
		x++
	case south:
		y++
	case west:
		x--
	}
	return g.place(x, y)
}

// distance returns the minimum number of steps from one place to another.
func (g grid) distance(p, q int) int {
	px, py := g.locate(p)
	qx, qy := g.locate(q)
	return gap(px, qx) + gap(py, qy)
}

// isSide reports whether a width, or a height, is valid.
func isSide(n int) bool { return n >= minSide && n <= api.MaxSide }

// gap returns by how much two coordinates differ.
func gap(a, b int) int { return max(a-b, b-a) }

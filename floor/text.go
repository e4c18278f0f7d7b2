package floor

import "dunnage/api"

// The characters of the text form beside the tenants' digits.
const (
	wallMark   = '#'
	aisleMark  = '.'
	firstDigit = '0'
	lineFeed   = '\n'
)

// Draw returns the text form of a floor.
func Draw(f api.Floor) (string, api.Errno) {
	b, e := boardOf(f)
	if e != api.OK {
		return "", e
	}
	text := make([]byte, 0, b.size()+b.h)
	for p, cell := range b.cells {
		text = append(text, markOf(cell))
		if x, _ := b.locate(p); x == b.w-1 {
			text = append(text, lineFeed)
		}
	}
	return string(text), api.OK
}

// Parse returns the floor of a text form.
func Parse(s string) (api.Floor, api.Errno) {
	var f api.Floor
	length := 0
	// A byte that is no character, or not all of one, is traversed as a character that is no mark.
	for _, c := range s {
		if c == lineFeed {
			if f.H > 0 && length != f.W {
				return api.Floor{}, api.ErrForm
			}
			f.W, f.H, length = length, f.H+1, 0
			continue
		}
		cell, isMark := cellOf(c)
		if !isMark {
			return api.Floor{}, api.ErrForm
		}
		f.Cells = append(f.Cells, cell)
		length++
	}
	// Only a line without a line feed leaves a length.
	if length > 0 {
		return api.Floor{}, api.ErrForm
	}
	if e := Check(f); e != api.OK {
		return api.Floor{}, e
	}
	return f, api.OK
}

// markOf returns the character for a cell with a valid value.
func markOf(cell uint8) byte {
	switch cell {
	case api.CellWall:
		return wallMark
	case api.CellAisle:
		return aisleMark
	}
	return firstDigit + cell - 1
}

// cellOf returns the cell for a character, and whether there is one.
func cellOf(c rune) (uint8, bool) {
	switch {
	case c == wallMark:
		return api.CellWall, true
	case c == aisleMark:
		return api.CellAisle, true
	case c >= firstDigit && c < firstDigit+api.MaxTeams:
		return uint8(c-firstDigit) + 1, true
	}
	return 0, false
}

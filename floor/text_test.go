package floor_test

import (
	"strings"
	"testing"

	"dunnage/api"
	"dunnage/floor"
)

// exampleText is the text form of the floor of the document's examples.
const exampleText = "0.1\n#.0\n"

// P2.4: Draw.
func TestDraw(t *testing.T) {
	for want, f := range map[string]api.Floor{
		exampleText:            exampleFloor(),
		"#.\n01\n2#\n":         {W: 2, H: 3, Cells: []uint8{0, 255, 1, 2, 3, 0}},
		"########\n........\n": {W: 8, H: 2, Cells: []uint8{0, 0, 0, 0, 0, 0, 0, 0, 255, 255, 255, 255, 255, 255, 255, 255}},
	} {
		s, e := floor.Draw(f)
		if s != want || e != api.OK {
			t.Errorf("Draw(%v): %q, %d, want %q", f, s, e, want)
		}
	}
	for what, f := range badFloors() {
		s, e := floor.Draw(f)
		if s != "" || e != api.ErrFloor {
			t.Errorf("Draw of %s: %q, %d", what, s, e)
		}
	}
}

// P2.4: Draw puts the character of each cell into the line and column of its place.
func TestDrawEverywhere(t *testing.T) {
	marks := map[uint8]byte{0: '#', 1: '0', 2: '1', 3: '2', 255: '.'}
	eachFloor(func(f api.Floor) {
		s, e := floor.Draw(f)
		wantErrno(t, "Draw", e, api.OK)
		if len(s) != (f.W+1)*f.H {
			t.Fatalf("Draw(%v): %q", f, s)
		}
		for p, cell := range f.Cells {
			if s[p/f.W*(f.W+1)+p%f.W] != marks[cell] {
				t.Errorf("Draw(%v): another character at %d: %q", f, p, s)
			}
		}
		for y := range f.H {
			if s[y*(f.W+1)+f.W] != '\n' {
				t.Errorf("Draw(%v): no line feed after row %d: %q", f, y, s)
			}
		}
	})
}

// P2.4: Parse.
func TestParse(t *testing.T) {
	f, e := floor.Parse(exampleText)
	wantFloor(t, "Parse", f, e, exampleFloor(), api.OK)
	row := strings.Repeat("2", 8) + "\n"
	f, e = floor.Parse(strings.Repeat(row, 8))
	wantErrno(t, "the largest floor", e, api.OK)
	if f.W != 8 || f.H != 8 || len(f.Cells) != 64 || f.Cells[63] != 3 {
		t.Errorf("the largest floor: %v", f)
	}
	for _, x := range []struct {
		s    string
		want api.Errno
	}{
		{"0.1\n#.0", api.ErrForm},
		{"0.1\n#.\n", api.ErrForm},
		{"0.1\n#.\n#.0\n", api.ErrForm},
		{"0.1\n#.0\n\n", api.ErrForm},
		{"\n0.1\n#.0\n", api.ErrForm},
		{"0.1\n\n#.0\n", api.ErrForm},
		{"0.\n0.1\n", api.ErrForm},
		{"..\n.", api.ErrForm},
		{"\n\n.", api.ErrForm},
		{".", api.ErrForm},
		{"0.1\r\n#.0\r\n", api.ErrForm},
		{"0.1\n#.3\n", api.ErrForm},
		{"0.1\n#.0\n ", api.ErrForm},
		{"0.1\n#.0\n\x00", api.ErrForm},
		{"3", api.ErrForm},
		// ErrForm comes before Check's error.
		{".\n..\n", api.ErrForm},
		{"x\n", api.ErrForm},
		{strings.Repeat("#", 9) + "\n" + strings.Repeat("#", 9), api.ErrForm},
		{"", api.ErrFloor},
		{"\n", api.ErrFloor},
		{"\n\n", api.ErrFloor},
		{"..\n", api.ErrFloor},
		{".\n.\n", api.ErrFloor},
		{strings.Repeat("#", 9) + "\n" + strings.Repeat("#", 9) + "\n", api.ErrFloor},
		{strings.Repeat("..\n", 9), api.ErrFloor},
		{strings.Repeat("\n", 100000), api.ErrFloor},
		{strings.Repeat(".", 100000) + "\n", api.ErrFloor},
		{strings.Repeat(row, 10000), api.ErrFloor},
	} {
		f, e := floor.Parse(x.s)
		wantFloor(t, "Parse of "+x.s[:min(len(x.s), 20)], f, e, api.Floor{}, x.want)
	}
}

// P2.4: no other byte, in no place, and no character of several bytes, is part of a text form.
func TestParseOtherBytes(t *testing.T) {
	var others []string
	for b := range 256 {
		if !strings.Contains("#.012\n", string(rune(b))) {
			others = append(others, string([]byte{byte(b)}))
		}
	}
	if len(others) != 250 {
		t.Fatalf("%d other bytes", len(others))
	}
	// The replacement character, which a wrong byte is traversed as; wide forms of the marks; and characters whose low bits are those of a mark.
	others = append(others, "\ufffd", "\uff10", "\uff03", "\u0130", "\u0123", "\u012e", "\u010a", "\U00010030", "\u2028", "\u0085", "\xc0\xae", "\xe0\x80\xb0", "\xed\xa0\x80", "\xf4\x90\x80\x80")
	for _, other := range others {
		for at := range len(exampleText) + 1 {
			for _, s := range []string{
				exampleText[:at] + other + exampleText[at:],
				exampleText[:at] + other + exampleText[min(at+1, len(exampleText)):],
			} {
				f, e := floor.Parse(s)
				wantFloor(t, "Parse", f, e, api.Floor{}, api.ErrForm)
			}
		}
		for _, s := range []string{other, other + "\n", other + other + "\n" + other + other + "\n"} {
			f, e := floor.Parse(s)
			wantFloor(t, "Parse", f, e, api.Floor{}, api.ErrForm)
		}
	}
}

// P2.8: Parse of what Draw returned is the floor.
func TestDrawThenParse(t *testing.T) {
	eachFloor(func(f api.Floor) {
		s, e := floor.Draw(f)
		wantErrno(t, "Draw", e, api.OK)
		g, e := floor.Parse(s)
		wantFloor(t, "Parse of Draw", g, e, f, api.OK)
	})
}

// P2.8: Draw of what Parse returned is the string; here of all floors of 2 x 2 cells.
func TestParseThenDraw(t *testing.T) {
	const marks = "#.012"
	for n := range 5 * 5 * 5 * 5 {
		s := string([]byte{marks[n%5], marks[n/5%5], '\n', marks[n/25%5], marks[n/125], '\n'})
		f, e := floor.Parse(s)
		wantErrno(t, "Parse", e, api.OK)
		got, e := floor.Draw(f)
		if got != s || e != api.OK {
			t.Errorf("Draw of Parse(%q): %q, %d", s, got, e)
		}
	}
}

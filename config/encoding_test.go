package config_test

import (
	"math"
	"slices"
	"testing"

	"dunnage/api"
	"dunnage/config"
)

// encoded returns the encoding of a valid config.
func encoded(t *testing.T, c api.Config) []byte {
	t.Helper()
	b, e := config.Encode(c)
	wantErrno(t, "Encode", e, api.OK)
	return b
}

// wantDecoded checks what Decode returns.
func wantDecoded(t *testing.T, what string, b []byte, want api.Config, wantE api.Errno) {
	t.Helper()
	c, e := config.Decode(b)
	wantConfig(t, what, c, e, want, wantE)
}

// gapBytes is the encoding of gapConfig.
func gapBytes() []byte {
	return []byte{
		4, 3,
		1, 1, 1, 1, 255, 255, 255, 0, 3, 3, 3, 3,
		3, 1, 0, 3,
		3,
		1, 0, 1, 1, 1, 2, 1, 2, 3, 4, 5,
		0,
		1, 8, 1, 9, 1, 11, 8, 7, 6, 16, 64,
		1, 2, 3, 4, 5, 6, 7, 8,
	}
}

// P3.4: Encode.
func TestEncode(t *testing.T) {
	b, e := config.Encode(gapConfig())
	wantBytes(t, "Encode", b, e, gapBytes(), api.OK)
	b, e = config.Encode(loneConfig())
	wantBytes(t, "Encode", b, e, []byte{2, 2, 1, 1, 1, 0, 1, 0, 1, 1, 1, 1, 0, 1, 2, 1, 1, 1, 1, 1, 0, 0, 0, 0, 0, 0, 0, 0}, api.OK)
	b, e = config.Encode(exampleConfig())
	wantErrno(t, "Encode", e, api.OK)
	if len(b) != 60 {
		t.Fatalf("%d bytes, want 60", len(b))
	}
	wantBytes(t, "the bytes from 22 on", b[22:], e, []byte{6, 1, 1, 0, 2, 2, 0, 2, 1, 0, 1, 5, 1, 4, 1, 1, 2, 2, 8, 1, 10, 1, 15, 1, 14, 1, 1, 2, 2, 8, 0, 0, 0, 0, 0, 0, 0, 0}, api.OK)
	for _, bad := range badConfigs() {
		b, e := config.Encode(bad.c)
		wantBytes(t, bad.what, b, e, nil, bad.e)
	}
}

// encodingOf returns the encoding of a valid config, number by number.
func encodingOf(c api.Config) (b []byte) {
	put := func(numbers ...int) {
		for _, n := range numbers {
			b = append(b, byte(n))
		}
	}
	put(c.Floor.W, c.Floor.H)
	b = append(b, c.Floor.Cells...)
	put(len(c.Slices))
	b = append(b, c.Slices...)
	put(len(c.Teams))
	for t, m := range c.Teams {
		put(len(m.Homes))
		if isThere(c, t) {
			put(m.Homes...)
			put(len(m.Picks))
			put(m.Picks...)
			put(len(m.Drops))
			put(m.Drops...)
			put(m.Load, m.Unload, m.Queue, m.Quota, m.Window)
		}
	}
	for shift := 56; shift >= 0; shift -= 8 {
		put(int(c.Start >> shift & 255))
	}
	return b
}

// P3.4 and P3.8: Encode and Decode of valid configs.
func TestEncodeThenDecode(t *testing.T) {
	for _, c := range validConfigs() {
		b := encoded(t, c)
		wantBytes(t, "Encode", b, api.OK, encodingOf(c), api.OK)
		wantDecoded(t, "Decode of Encode", b, c, api.OK)
	}
	if b := encoded(t, fullConfig()); len(b) != 143 {
		t.Errorf("the longest encoding has %d bytes", len(b))
	}
}

// P3.8: a proper beginning of an encoding.
func TestDecodeOfBeginnings(t *testing.T) {
	for _, c := range validConfigs() {
		b := encoded(t, c)
		for n := range b {
			wantDecoded(t, "Decode of a beginning", b[:n], api.Config{}, api.ErrShort)
		}
	}
	wantDecoded(t, "Decode of no bytes", nil, api.Config{}, api.ErrShort)
}

// P3.8: an encoding with further bytes.
func TestDecodeOfMore(t *testing.T) {
	for _, c := range validConfigs() {
		b := encoded(t, c)
		for more := 1; len(b)+more <= 300; more++ {
			want := api.ErrForm
			if len(b)+more > 256 {
				want = api.ErrMany
			}
			wantDecoded(t, "Decode of more", append(slices.Clone(b), make([]byte, more)...), api.Config{}, want)
			wantDecoded(t, "Decode of more", append(slices.Clone(b), slices.Repeat([]byte{255}, more)...), api.Config{}, want)
		}
	}
	for _, n := range []int{257, 258, 1000, 100000} {
		wantDecoded(t, "Decode of many bytes", make([]byte, n), api.Config{}, api.ErrMany)
	}
}

// P3.4: Decode reads all fields, whatever their values are, before it checks them.
func TestDecodeReadsBeforeItChecks(t *testing.T) {
	zeros := make([]byte, 8)
	join := func(parts ...[]byte) []byte { return slices.Concat(parts...) }
	for _, x := range []struct {
		what string
		b    []byte
		want api.Errno
	}{
		{"no cells, entries and teams", join([]byte{0, 0, 0, 0}, zeros), api.ErrFloor},
		{"no cells, and a byte less", join([]byte{0, 0, 0, 0}, zeros[1:]), api.ErrShort},
		{"no cells, and a byte more", join([]byte{0, 0, 0, 0}, zeros, []byte{0}), api.ErrForm},
		{"no rows", join([]byte{255, 0, 0, 0}, zeros), api.ErrFloor},
		{"no columns", join([]byte{0, 255, 0, 0}, zeros), api.ErrFloor},
		{"a cell", join([]byte{1, 1, 77, 0, 0}, zeros), api.ErrFloor},
		{"a long row", join([]byte{200, 1}, make([]byte, 200), []byte{0, 0}, zeros), api.ErrFloor},
		{"a row that is too long", join([]byte{255, 1}, make([]byte, 254)), api.ErrShort},
		{"16 x 16 cells that are not there", []byte{16, 16, 0, 0}, api.ErrShort},
		{"16 x 16 cells as if there were none", join([]byte{16, 16, 0, 0}, zeros), api.ErrShort},
		{"255 x 255 cells", join([]byte{255, 255}, make([]byte, 254)), api.ErrShort},
		{"many entries", join([]byte{0, 0, 200}, make([]byte, 200), []byte{0}, zeros), api.ErrFloor},
		{"many entries and a floor", join([]byte{2, 2, 0, 0, 0, 0, 200}, make([]byte, 200), []byte{0}, zeros), api.ErrSlices},
		{"no entries", join([]byte{2, 2, 0, 0, 0, 0, 0, 0}, zeros), api.ErrSlices},
		{"entries that are not there", join([]byte{2, 2, 0, 0, 0, 0, 255}, make([]byte, 200)), api.ErrShort},
		{"no teams", join([]byte{2, 2, 0, 0, 0, 0, 1, 0, 0}, zeros), api.ErrTeam},
		{"three absent teams", join([]byte{2, 2, 0, 0, 0, 0, 1, 0, 3, 0, 0, 0}, zeros), api.ErrTeam},
		{"many absent teams", join([]byte{2, 2, 0, 0, 0, 0, 1, 0, 239}, make([]byte, 239), zeros), api.ErrTeam},
		{"many absent teams, and a byte less", join([]byte{2, 2, 0, 0, 0, 0, 1, 0, 240}, make([]byte, 239), zeros), api.ErrShort},
		{"many absent teams, and a byte more", join([]byte{2, 2, 0, 0, 0, 0, 1, 0, 238}, make([]byte, 239), zeros), api.ErrForm},
		{"many homes", join([]byte{2, 2, 0, 0, 0, 0, 1, 0, 1, 100}, make([]byte, 100), []byte{0, 0, 1, 1, 1, 1, 1}, zeros), api.ErrTeam},
		{"many picks", join([]byte{2, 2, 0, 0, 0, 0, 1, 0, 1, 1, 0, 100}, make([]byte, 100), []byte{0, 1, 1, 1, 1, 1}, zeros), api.ErrTeam},
		{"drops that are not there", join([]byte{2, 2, 0, 0, 0, 0, 1, 0, 1, 1, 0, 1, 0, 255}, make([]byte, 100)), api.ErrShort},
		{"a home and nothing more of the team", join([]byte{2, 2, 1, 1, 1, 0, 1, 0, 1, 1, 0}, zeros), api.ErrShort},
		{"no home, but the other fields", join([]byte{2, 2, 1, 1, 1, 0, 1, 0, 1, 0, 1, 0, 1, 2, 1, 1, 1, 1, 1}, zeros), api.ErrForm},
		{"no picks", join([]byte{2, 2, 1, 1, 1, 0, 1, 0, 1, 1, 1, 0, 1, 2, 1, 1, 1, 1, 1}, zeros), api.ErrTeam},
		{"Start beyond MaxTick", join([]byte{2, 2, 1, 1, 1, 0, 1, 0, 1, 1, 1, 1, 0, 1, 2, 1, 1, 1, 1, 1}, []byte{64, 0, 0, 0, 0, 0, 0, 1}), api.ErrArg},
	} {
		wantDecoded(t, x.what, x.b, api.Config{}, x.want)
	}
}

// P3.4: Decode returns Check's error, also if there are several.
func TestDecodeChecks(t *testing.T) {
	for _, bad := range badConfigs() {
		// Other configs have no such bytes: Decode would read other fields out of them.
		if f := bad.c.Floor; f.W <= api.MaxSide && len(f.Cells) == f.W*f.H {
			wantDecoded(t, bad.what, encodingOf(bad.c), api.Config{}, bad.e)
		}
	}
	b := gapBytes()
	b[9] = 2
	wantDecoded(t, "a cell of an absent team", b, api.Config{}, api.ErrTeam)
	b[14] = 3
	b[15] = 4
	wantDecoded(t, "and an invalid entry", b, api.Config{}, api.ErrSlices)
	b[2] = 200
	wantDecoded(t, "and an invalid cell", b, api.Config{}, api.ErrFloor)
}

// P3.4: Start in 8 bytes, the highest first.
func TestDecodeStart(t *testing.T) {
	b := gapBytes()
	start := b[len(b)-8:]
	copy(start, []byte{64, 0, 0, 0, 0, 0, 0, 0})
	want := gapConfig()
	want.Start = 1 << 62
	wantDecoded(t, "the last Start", b, want, api.OK)
	wantBytes(t, "Encode of the last Start", encoded(t, want), api.OK, b, api.OK)
	copy(start, []byte{0, 0, 0, 0, 0, 0, 1, 2})
	want.Start = 258
	wantDecoded(t, "the Start 258", b, want, api.OK)
	for _, high := range []byte{65, 127, 128, 255} {
		start[0] = high
		wantDecoded(t, "a Start that is too large", b, api.Config{}, api.ErrArg)
	}
	copy(start, slices.Repeat([]byte{255}, 8))
	c, e := config.Decode(b)
	wantConfig(t, "the largest Start", c, e, api.Config{}, api.ErrArg)
	c = gapConfig()
	c.Start = math.MaxUint64
	b, e = config.Encode(c)
	wantBytes(t, "Encode of the largest Start", b, e, nil, api.ErrArg)
}

// P3.8: Encode of what Decode returned is the bytes; here of all bytes that differ from an encoding in one byte, or lack one.
func TestDecodeThenEncode(t *testing.T) {
	decoded := 0
	try := func(b []byte) {
		c, e := config.Decode(b)
		if e != api.OK {
			wantConfig(t, "Decode with an error", c, api.OK, api.Config{}, api.OK)
			return
		}
		decoded++
		wantErrno(t, "Check of what was decoded", config.Check(c), api.OK)
		again, e := config.Encode(c)
		wantBytes(t, "Encode of Decode", again, e, b, api.OK)
	}
	for _, c := range []api.Config{exampleConfig(), fullConfig(), loneConfig(), gapConfig(), lastConfig(), tailConfig(), drawnConfig(3)} {
		b := encoded(t, c)
		for i := range b {
			for value := range 256 {
				other := slices.Clone(b)
				other[i] = byte(value)
				try(other)
			}
			try(slices.Delete(slices.Clone(b), i, i+1))
			try(slices.Insert(slices.Clone(b), i, 0))
		}
	}
	if decoded < 1000 {
		t.Errorf("only %d were decoded", decoded)
	}
}

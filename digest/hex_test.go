package digest_test

import (
	"bytes"
	"encoding/hex"
	"strings"
	"testing"

	"dunnage/api"
	"dunnage/digest"
)

// P1.4: Hex.
func TestHex(t *testing.T) {
	for _, x := range []struct {
		b    []byte
		want string
	}{
		{nil, ""},
		{[]byte{}, ""},
		{[]byte{0x00, 0xaf}, "00af"},
		{[]byte{0x0f, 0xf0, 0x9a}, "0ff09a"},
		{pattern(api.MaxInput), hex.EncodeToString(pattern(api.MaxInput))},
	} {
		got, e := digest.Hex(x.b)
		wantErrno(t, "Hex", e, api.OK)
		if got != x.want {
			t.Errorf("Hex(% x): %s", x.b, got)
		}
	}
	got, e := digest.Hex(make([]byte, api.MaxInput+1))
	wantErrno(t, "Hex of too many bytes", e, api.ErrMany)
	if got != "" {
		t.Error("Hex returns text with an error")
	}
}

// P1.4: ParseHex.
func TestParseHex(t *testing.T) {
	for text, want := range map[string][]byte{
		"":                                 nil,
		"00af":                             {0x00, 0xaf},
		"0ff09a":                           {0x0f, 0xf0, 0x9a},
		strings.Repeat("5e", api.MaxInput): bytes.Repeat([]byte{0x5e}, api.MaxInput),
	} {
		got, e := digest.ParseHex(text)
		wantBytes(t, "ParseHex", got, e, want)
	}
}

func TestParseHexErrors(t *testing.T) {
	for _, x := range []struct {
		text string
		want api.Errno
	}{
		{"0", api.ErrForm},
		{"00a", api.ErrForm},
		{"00AF", api.ErrForm},
		{"0x00", api.ErrForm},
		{" 00 ", api.ErrForm},
		{"00\n0", api.ErrForm},
		{"é", api.ErrForm},
		{"00\xff0", api.ErrForm},
		{"\x00\x00", api.ErrForm},
		{strings.Repeat("0", 2*api.MaxInput-1), api.ErrForm},
		{strings.Repeat("0", 2*api.MaxInput-1) + "g", api.ErrForm},
		{strings.Repeat("0", 2*api.MaxInput+1), api.ErrMany},
		{strings.Repeat("0", 2*api.MaxInput+2), api.ErrMany},
		{strings.Repeat("g", 2*api.MaxInput+1), api.ErrMany},
	} {
		got, e := digest.ParseHex(x.text)
		wantErrno(t, "ParseHex", e, x.want)
		if len(got) != 0 {
			t.Errorf("ParseHex of %d characters returns bytes with an error", len(x.text))
		}
	}
}

// P1.4: each character that is no digit, at each of the two places.
func TestParseHexDigits(t *testing.T) {
	for c := range 256 {
		value := strings.IndexByte("0123456789abcdef", byte(c))
		for _, x := range []struct {
			text string
			want int
		}{
			{string([]byte{byte(c), '0'}), value << 4},
			{string([]byte{'0', byte(c)}), value},
		} {
			got, e := digest.ParseHex(x.text)
			if value < 0 {
				wantErrno(t, "no digit", e, api.ErrForm)
				continue
			}
			wantBytes(t, "a digit", got, e, []byte{byte(x.want)})
		}
	}
}

// P1.8: ParseHex and Hex are inverse to each other.
func TestHexAndBack(t *testing.T) {
	var all []byte
	for c := range 256 {
		all = append(all, byte(c))
	}
	for _, b := range [][]byte{nil, {0}, {255}, all, pattern(1001), pattern(api.MaxInput)} {
		text, e := digest.Hex(b)
		wantErrno(t, "Hex", e, api.OK)
		got, e := digest.ParseHex(text)
		wantBytes(t, "ParseHex of Hex", got, e, b)
	}
	for _, text := range []string{"", "00", "ff", "0123456789abcdef", strings.Repeat("9c0d", api.MaxInput/2)} {
		b, e := digest.ParseHex(text)
		wantErrno(t, "ParseHex", e, api.OK)
		got, e := digest.Hex(b)
		wantErrno(t, "Hex", e, api.OK)
		if got != text {
			t.Errorf("Hex of ParseHex of %s: %s", text, got)
		}
	}
}

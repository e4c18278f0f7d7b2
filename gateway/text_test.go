package gateway_test

import (
	"slices"
	"strconv"
	"strings"
	"testing"

	"dunnage/api"
	"dunnage/digest"
	"dunnage/gateway"
)

// hexOf returns bytes as hexadecimal text.
func hexOf(b []byte) string {
	text, e := digest.Hex(b)
	if e != api.OK {
		panic("too many bytes for a test")
	}
	return text
}

// goodLines returns lines of scripts, and the steps of each.
func goodLines() map[string][]api.Step {
	all := map[string][]api.Step{
		"":                               nil,
		"#":                              nil,
		"# tick":                         nil,
		"#tick 0 \r\x00\xff#":            nil,
		"tick":                           ticks(1),
		"bytes 0 -":                      {bytesStep(0, nil)},
		"bytes 1 00":                     {bytesStep(1, []byte{0})},
		"bytes 2 0123456789abcdef":       {bytesStep(2, []byte{0x01, 0x23, 0x45, 0x67, 0x89, 0xab, 0xcd, 0xef})},
		"bytes 9223372036854775807 ff":   {bytesStep(1<<63-1, []byte{255})},
		"stall 0 0":                      {stallStep(0, 0)},
		"stall 1 2":                      {stallStep(1, 2)},
		"stall 12 345":                   {stallStep(12, 345)},
		"stall 0 9223372036854775807":    {stallStep(0, 1<<63-1)},
		"stall 9223372036854775807 0":    {stallStep(1<<63-1, 0)},
		"mint 0 0 0":                     {mintStep(0, 0, 0)},
		"mint 2 3 100":                   {mintStep(2, 3, 100)},
		"mint 0 255 4611686018427387904": {mintStep(0, 255, 1<<62)},
		"mint 7 10 9223372036854775807":  {mintStep(7, 10, 1<<63-1)},
		"mint 9223372036854775807 1 1":   {mintStep(1<<63-1, 1, 1)},
	}
	for _, many := range []int{2, 3, 9, 10, 11, 99, 100, 999, 1000} {
		all["tick "+strconv.Itoa(many)] = ticks(many)
	}
	long := make([]byte, 4096)
	all["bytes 0 "+hexOf(long)] = []api.Step{bytesStep(0, long)}
	return all
}

// badLines returns lines that are not of the right form.
func badLines() []string {
	all := []string{
		" ", "  ", "\t", "\r", "\x00", "-", "0", " tick", "tick ", "tick  2", "tick 2 ", "tick 2 2", "tick\t2", "tick\r", "tick 2\r", "Tick", "TICK", "ticks", "tic", "tick2", "tick #", " #",
		"tick 0", "tick 1", "tick 1001", "tick 1010", "tick 10000", "tick 02", "tick 002", "tick +2", "tick -2", "tick -1", "tick 2.", "tick 2.0", "tick 2e1", "tick 0x2", "tick 1_0", "tick two", "tick ２", "tick 18446744073709551618",
		"bytes", "bytes ", "bytes 0", "bytes 0 ", "bytes  0 -", "bytes 0  -", "bytes 0 - ", "bytes - 0", "bytes 0 --", "bytes 0 - -", "bytes 0 0", "bytes 0 000", "bytes 0 0g", "bytes 0 FF", "bytes 0 aF", "bytes 0 0x00", "bytes 0 00 00", "bytes 0 00-", "bytes 0 -00", "bytes 00 -", "bytes +1 -", "bytes -1 -", "bytes a 00", "bytes 9223372036854775808 -", "bytes 18446744073709551616 -", "byte 0 -", "Bytes 0 -",
		"stall", "stall ", "stall 0", "stall 0 ", "stall 0 0 ", "stall  0 0", "stall 0  0", "stall 0 0 0", "stall 0 -", "stall 01 0", "stall 0 00", "stall 0 -1", "stall -1 0", "stall 0 +1", "stall 0 9223372036854775808", "stall 9223372036854775808 0", "stall 0 18446744073709551616", "stall 0 99999999999999999999999", "stal 0 0",
		"mint", "mint ", "mint 0", "mint 0 1", "mint 0 1 ", "mint 0 1 1 ", "mint  0 1 1", "mint 0  1 1", "mint 0 1  1", "mint 0 1 1 1", "mint 0 256 1", "mint 0 257 1", "mint 0 512 1", "mint 0 -1 1", "mint 0 01 1", "mint 0 1 01", "mint 01 1 1", "mint 0 1 -1", "mint 0 1 9223372036854775808", "mint 0 1 18446744073709551615", "mint 0 1 18446744073709551616", "mint 0 18446744073709551617 1", "mint 9223372036854775808 1 1", "mint 0 - 1", "mint 0 1 -", "mnt 0 1 1",
		"config 00", "key 00", "none", "tick;tick", "\xff", "\xff\xfe tick",
	}
	return append(all, "bytes 0 "+strings.Repeat("00", 4097), "bytes 0 "+strings.Repeat("0", 8191))
}

// wantParse checks what Parse returns.
func wantParse(t *testing.T, s string, wanted []api.Step, wantLine int, wantE api.Errno) {
	t.Helper()
	l, line, e := gateway.Parse(s)
	what := s
	if len(what) > 200 {
		what = what[:200]
	}
	wantSteps(t, "Parse of "+strconv.Quote(what), l, line, e, wanted, wantLine, wantE)
}

// P10.5: Parse of lines that are of the right form, alone and in a text.
func TestParse(t *testing.T) {
	wantParse(t, "", nil, 0, api.OK)
	wantParse(t, "\n", nil, 0, api.OK)
	for line, steps := range goodLines() {
		wantParse(t, line+"\n", steps, 0, api.OK)
		if len(line) < 100 {
			wantParse(t, line+"\n"+line+"\n", slices.Concat(steps, steps), 0, api.OK)
		}
		wantParse(t, "stall 1 1\n\n#\n"+line+"\nmint 1 1 1\n", slices.Concat([]api.Step{stallStep(1, 1)}, steps, []api.Step{mintStep(1, 1, 1)}), 0, api.OK)
		if more, is := specLine(line); !is || !equalSteps(more, steps) {
			t.Errorf("the definition of the line %q: %v, %t", line, more, is)
		}
	}
	wantParse(t, "# two ticks, and more\ntick 2\n\nbytes 1 00ff\nbytes 0 -\nstall 2 1\nmint 0 3 12\n", []api.Step{tickStep(), tickStep(), bytesStep(1, []byte{0, 255}), bytesStep(0, nil), stallStep(2, 1), mintStep(0, 3, 12)}, 0, api.OK)
}

// P10.5: Parse returns ErrLine and the number of the first line that is not of the right form.
func TestParseErrors(t *testing.T) {
	for _, bad := range badLines() {
		wantParse(t, bad+"\n", nil, 1, api.ErrLine)
		wantParse(t, "tick\n"+bad+"\ntick 0\n", nil, 2, api.ErrLine)
		wantParse(t, "tick\n\n# note\nmint 0 1 2\n"+bad+"\ntick\n", nil, 5, api.ErrLine)
		if _, is := specLine(bad); is {
			t.Errorf("the definition of the line %q", bad)
		}
	}
}

// P10.5: Parse returns ErrLine, and 1 plus the number of line feeds, if a text does not end with one; this comes before what is in the lines.
func TestParseOfTextsWithoutEnd(t *testing.T) {
	for s, line := range map[string]int{"tick": 1, "#": 1, " ": 1, "tick\ntick": 2, "tick\r": 1, "no line\ntick": 2, "\n\n\n#": 4, "tick\n\n ": 3, "tick 0\n\ntick": 3} {
		wantParse(t, s, nil, line, api.ErrLine)
	}
	wantParse(t, strings.Repeat("\n", 2000)+"tick", nil, 2001, api.ErrLine)
	wantParse(t, strings.Repeat("tick 1000\n", 5)+"tick", nil, 6, api.ErrLine)
}

// P10.5: Parse returns ErrMany and 0 if there are too many bytes, and ErrMany and the number of a line if there are too many lines or steps.
func TestParseLimits(t *testing.T) {
	note := "#" + strings.Repeat("x", 16382) + "\n"
	wantParse(t, note, nil, 0, api.OK)
	wantParse(t, "#"+note, nil, 0, api.ErrMany)
	wantParse(t, strings.Repeat("x", 16385), nil, 0, api.ErrMany)
	wantParse(t, strings.Repeat("\n", 16385), nil, 0, api.ErrMany)
	wantParse(t, strings.Repeat("x", 16384), nil, 1, api.ErrLine)

	wantParse(t, strings.Repeat("\n", 1024), nil, 0, api.OK)
	wantParse(t, strings.Repeat("tick\n", 1024), ticks(1024), 0, api.OK)
	for _, last := range []string{"\n", "#\n", "tick\n", "no line\n"} {
		wantParse(t, strings.Repeat("\n", 1024)+last, nil, 1025, api.ErrMany)
		wantParse(t, strings.Repeat("\n", 1024)+last+"\n\nno line\n", nil, 1025, api.ErrMany)
	}
	wantParse(t, strings.Repeat("\n", 1023)+"no line\n\n", nil, 1024, api.ErrLine)

	most := strings.Repeat("tick 1000\n", 4) + "tick 96\n"
	wantParse(t, most, ticks(4096), 0, api.OK)
	wantParse(t, most+"\n# note\n", ticks(4096), 0, api.OK)
	wantParse(t, "bytes 0 -\n"+strings.Repeat("tick 1000\n", 4)+"tick 95\n", append([]api.Step{bytesStep(0, nil)}, ticks(4095)...), 0, api.OK)
	for _, last := range []string{"tick", "tick 2", "tick 1000", "bytes 0 -", "stall 0 0", "mint 0 0 0"} {
		wantParse(t, most+"\n"+last+"\nno line\n", nil, 7, api.ErrMany)
	}
	for _, last := range []string{"tick 1001", "bytes 0 0", "stall 0", "mint 0 256 0", "tick 1000 "} {
		wantParse(t, most+last+"\ntick\n", nil, 6, api.ErrLine)
	}
	wantParse(t, strings.Repeat("tick 1000\n", 5), nil, 5, api.ErrMany)
	wantParse(t, strings.Repeat("tick 999\n", 5), nil, 5, api.ErrMany)
}

// P10.5: Parse of drawn texts, of lines of all kinds and of pieces of such lines.
func TestParseOfDrawnTexts(t *testing.T) {
	var lines []string
	for line := range goodLines() {
		if len(line) < 100 {
			lines = append(lines, line)
		}
	}
	slices.Sort(lines)
	good, bad := 0, 0
	for seed := range 3000 {
		draw := drawer(seed)
		var text []byte
		for range draw(8) {
			text = append(text, oneOf(draw, lines)...)
			text = append(text, '\n')
		}
		if len(text) > 0 && draw(2) == 0 {
			i := draw(len(text))
			switch c := oneOf(draw, []byte(" 0129-af#\nt")); draw(3) {
			case 0:
				text[i] = c
			case 1:
				text = slices.Insert(text, i, c)
			default:
				text = slices.Delete(text, i, i+1)
			}
		}
		wanted, line, e := specParse(string(text))
		wantParse(t, string(text), wanted, line, e)
		if e == api.OK {
			good++
		} else {
			bad++
		}
	}
	if good < 1000 || bad < 500 {
		t.Errorf("%d texts are good, %d are not", good, bad)
	}
}

// wantFormat checks what Format returns.
func wantFormat(t *testing.T, l []api.Step, wanted string, wantE api.Errno) {
	t.Helper()
	s, e := gateway.Format(l)
	wantText(t, "Format", s, e, wanted, wantE)
	if wantE == api.OK {
		wantParse(t, wanted, l, 0, api.OK)
	}
}

// P10.5: Format returns a line for each step, and as few lines of ticks as possible.
func TestFormat(t *testing.T) {
	wantFormat(t, nil, "", api.OK)
	wantFormat(t, []api.Step{}, "", api.OK)
	for line, steps := range goodLines() {
		if len(steps) > 0 {
			wantFormat(t, steps, line+"\n", api.OK)
		}
	}
	for many, wanted := range map[int]string{1: "tick\n", 2: "tick 2\n", 999: "tick 999\n", 1000: "tick 1000\n", 1001: "tick 1000\ntick\n", 1002: "tick 1000\ntick 2\n", 2000: "tick 1000\ntick 1000\n", 3001: "tick 1000\ntick 1000\ntick 1000\ntick\n", 4096: "tick 1000\ntick 1000\ntick 1000\ntick 1000\ntick 96\n"} {
		wantFormat(t, ticks(many), wanted, api.OK)
		if many < 4000 {
			l := slices.Concat([]api.Step{stallStep(1, 0)}, ticks(many), []api.Step{bytesStep(0, nil), tickStep()})
			wantFormat(t, l, "stall 1 0\n"+wanted+"bytes 0 -\ntick\n", api.OK)
		}
	}
	wantFormat(t, []api.Step{tickStep(), bytesStep(0, nil), tickStep(), bytesStep(0, []byte{}), tickStep(), tickStep()}, "tick\nbytes 0 -\ntick\nbytes 0 -\ntick 2\n", api.OK)
	// Parse of Format is the script, and Format of that the text.
	for _, h := range longHistories() {
		var l []api.Step
		for _, s := range h.script() {
			if s.Kind > 0 && s.Kind < 5 && s.Tenant >= 0 && len(s.Bytes) < 65 && len(l) < 150 {
				l = append(l, s)
			}
		}
		s, e := gateway.Format(l)
		wantErrno(t, "Format of a history", e, api.OK)
		wantFormat(t, l, s, api.OK)
	}
}

// P10.5: Format returns ErrBad unless each step is one that a line can have.
func TestFormatOfBadSteps(t *testing.T) {
	bad := []api.Step{
		{Kind: 0}, {Kind: 5}, {Kind: 254}, {Kind: 255},
		{Kind: 1, Tenant: 1}, {Kind: 1, Tenant: -1}, {Kind: 1, Robot: 1}, {Kind: 1, Role: 1}, {Kind: 1, Life: 1}, {Kind: 1, Bytes: []byte{0}},
		{Kind: 2, Tenant: -1}, {Kind: 2, Robot: 1}, {Kind: 2, Robot: -1}, {Kind: 2, Role: 1}, {Kind: 2, Life: 1}, {Kind: 2, Bytes: make([]byte, 4097)}, {Kind: 2, Bytes: make([]byte, 8193)},
		{Kind: 3, Tenant: -1}, {Kind: 3, Robot: -1}, {Kind: 3, Role: 1}, {Kind: 3, Life: 1}, {Kind: 3, Bytes: []byte{0}},
		{Kind: 4, Tenant: -1}, {Kind: 4, Robot: 1}, {Kind: 4, Robot: -1}, {Kind: 4, Bytes: []byte{0}}, {Kind: 4, Life: 1 << 63}, {Kind: 4, Life: 1<<64 - 1},
		{Kind: 2, Tenant: -1 << 63}, {Kind: 3, Robot: -1 << 63}, {Kind: 4, Tenant: -1 << 32},
	}
	for _, s := range bad {
		wantFormat(t, []api.Step{s}, "", api.ErrBad)
		wantFormat(t, slices.Concat(ticks(3), []api.Step{s, tickStep()}), "", api.ErrBad)
		// This comes before the length of the text, and after the number of steps.
		wantFormat(t, append(slices.Repeat([]api.Step{stallStep(0, 0)}, 4095), s), "", api.ErrBad)
		wantFormat(t, append([]api.Step{s}, slices.Repeat([]api.Step{stallStep(0, 0)}, 4096)...), "", api.ErrMany)
	}
}

// P10.5: Format returns ErrMany if there are too many steps, or if there would be too many bytes or lines.
func TestFormatLimits(t *testing.T) {
	wantFormat(t, ticks(4097), "", api.ErrMany)
	wantFormat(t, make([]api.Step, 4097), "", api.ErrMany)
	stalls := slices.Repeat([]api.Step{stallStep(0, 0)}, 1025)
	wantFormat(t, stalls[:1024], strings.Repeat("stall 0 0\n", 1024), api.OK)
	wantFormat(t, stalls, "", api.ErrMany)
	wantFormat(t, slices.Concat(stalls[:1023], ticks(1000)), strings.Repeat("stall 0 0\n", 1023)+"tick 1000\n", api.OK)
	wantFormat(t, slices.Concat(stalls[:1023], ticks(1001)), "", api.ErrMany)
	wantFormat(t, slices.Concat(ticks(2), stalls[:1024]), "", api.ErrMany)
	// Two lines of 8,192 bytes: "bytes 0 ", the digits, and a line feed.
	long, longer := bytesStep(0, make([]byte, 4091)), bytesStep(0, make([]byte, 4092))
	line := func(s api.Step) string { return "bytes 0 " + hexOf(s.Bytes) + "\n" }
	wantFormat(t, []api.Step{long, long}, line(long)+line(long), api.OK)
	wantFormat(t, []api.Step{long, bytesStep(10, long.Bytes)}, line(long)+"bytes 10 "+hexOf(long.Bytes)+"\n", api.OK)
	wantFormat(t, []api.Step{bytesStep(10, long.Bytes), bytesStep(10, long.Bytes)}, strings.Repeat("bytes 10 "+hexOf(long.Bytes)+"\n", 2), api.OK)
	wantFormat(t, []api.Step{bytesStep(100, long.Bytes), bytesStep(10, long.Bytes)}, "", api.ErrMany)
	wantFormat(t, []api.Step{long, longer}, line(long)+line(longer), api.OK)
	wantFormat(t, []api.Step{longer, longer}, "", api.ErrMany)
	wantFormat(t, slices.Repeat([]api.Step{bytesStep(0, make([]byte, 4096))}, 4096), "", api.ErrMany)
}

// P10.5: Parse of what Format returns is the script, for drawn scripts.
func TestTextsOfDrawnScripts(t *testing.T) {
	some := []api.Step{bytesStep(0, nil), bytesStep(3, []byte{1, 2, 3}), stallStep(2, 1), mintStep(1, 2, 3), mintStep(9, 0, 1<<63-1)}
	for seed := range 300 {
		draw := drawer(seed)
		var l []api.Step
		for range draw(7) {
			l = append(l, ticks(draw(oneOf(draw, []int{2, 3, 20, 600}))+draw(2)*draw(2)*1000)...)
			l = append(l, some[:draw(len(some))]...)
		}
		if len(l) > 4096 {
			l = l[:4096]
		}
		s, e := gateway.Format(l)
		wantErrno(t, "Format", e, api.OK)
		wantParse(t, s, l, 0, api.OK)
		// As few lines as possible: no line of ticks follows one of fewer than 1,000.
		lines := strings.Split(s, "\n")
		for i := 1; i < len(lines); i++ {
			if strings.HasPrefix(lines[i], "tick") && strings.HasPrefix(lines[i-1], "tick") && lines[i-1] != "tick 1000" {
				t.Errorf("Format: the lines %q and %q", lines[i-1], lines[i])
			}
		}
	}
}

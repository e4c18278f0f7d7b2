package gateway_test

import (
	"slices"
	"strconv"
	"strings"
	"testing"

	"dunnage/api"
	"dunnage/config"
	"dunnage/gateway"
)

// wantPlay checks what Play returns.
func wantPlay(t *testing.T, s, wanted string, wantLine int, wantE api.Errno) {
	t.Helper()
	out, line, e := gateway.Play(s)
	if out != wanted || line != wantLine || e != wantE {
		if len(s) > 300 {
			s = s[:300]
		}
		t.Errorf("Play of %q: %q, %d, %d, want %q, %d, %d", s, out, line, e, wanted, wantLine, wantE)
	}
}

// headed returns a text to be played: a config and a key in front of a script.
func headed(c api.Config, key, script string) string {
	return "config " + hexOf(encoded(c)) + "\nkey " + hexOf([]byte(key)) + "\n" + script
}

// P10.6: Play returns a line for each output.
func TestPlay(t *testing.T) {
	token := tokenFor("\x01", 0, 2, 100, 1)
	submit := hexOf(frameOf(api.Request{Kind: api.KindSubmit, Token: token}))
	granted := hexOf(outOf(0, api.Reply{Kind: api.KindToken, Token: token}).Bytes)
	wantPlay(t, headed(exampleConfig(), "\x01", "mint 0 2 100\n# an order\nbytes 0 "+submit+"\nbytes 1 "+submit+"\n\ntick 9\nbytes 1 0001\n"),
		"0 0 "+granted+"\n"+
			"0 0 000f01000000000000000000000001\n"+
			"0 1 000d0100be0000000000000000\n"+
			"9 0 000f10000000000000000000090001\n"+
			"9 1 000d00000a0000000000000009\n", 0, api.OK)
	wantPlay(t, headed(exampleConfig(), "\x01", ""), "", 0, api.OK)
	wantPlay(t, headed(exampleConfig(), "\x01", "tick 4\nstall 0 9\n"), "", 0, api.OK)
	last := exampleConfig()
	last.Start = api.MaxTick
	wantPlay(t, headed(last, strings.Repeat("k", 64), "tick\n"), "4611686018427387904 0 000d1101184000000000000000\n4611686018427387904 1 000d1101184000000000000000\n", 0, api.OK)
}

// P10.6: Play of long histories.
func TestPlayOfHistories(t *testing.T) {
	played := 0
	for _, h := range longHistories() {
		var l []api.Step
		text := headed(h.c, aKey, "")
		for _, s := range h.script() {
			more, e := gateway.Format(append(l, s))
			if e != api.OK {
				continue
			}
			if l = append(l, s); len(more) > 15000 {
				break
			}
		}
		script, e := gateway.Format(l)
		wantErrno(t, "Format", e, api.OK)
		outs, e := gateway.Run(encoded(h.c), []byte(aKey), l)
		wantErrno(t, "Run", e, api.OK)
		var wanted strings.Builder
		for _, o := range outs {
			wanted.WriteString(strconv.FormatUint(o.Tick, 10) + " " + strconv.Itoa(o.Tenant) + " " + hexOf(o.Bytes) + "\n")
		}
		if text += script; len(text) <= api.MaxText {
			played += len(outs)
			wantPlay(t, text, wanted.String(), 0, api.OK)
		}
	}
	if played < 2000 {
		t.Errorf("%d outputs were played", played)
	}
}

// P10.6: Play returns ErrLine unless its first two lines are of the right form; this comes before what is in them.
func TestPlayHeads(t *testing.T) {
	bad := func(word string) []string {
		return []string{"", " ", "-", "00", "#", word, word + " ", word + "  -", word + " - ", word + "\t-", " " + word + " -", word + "-", word + " 0", word + " 000", word + " 0g", word + " AB", word + " 00 00", word + " 00 ", word + " --", word + " 00-", word + " 0x00", strings.ToUpper(word) + " -", word + "s -", "tick", word + " -\r", "# " + word + " -"}
	}
	good := headed(exampleConfig(), "k", "")
	first, second, _ := strings.Cut(good, "\n")
	for _, line := range append(bad("config"), "key -", "key 00") {
		for _, rest := range []string{second, "", "no line\n", "key -\nno line", "\n\n"} {
			wantPlay(t, line+"\n"+rest, "", 1, api.ErrLine)
		}
		wantPlay(t, line, "", 1, api.ErrLine)
	}
	wantPlay(t, first, "", 1, api.ErrLine)
	wantPlay(t, "config -", "", 1, api.ErrLine)
	wantPlay(t, "config 00", "", 1, api.ErrLine)
	for _, head := range []string{first, "config -", "config 00"} {
		for _, line := range append(bad("key"), "config -", "config 00") {
			for _, rest := range []string{"", "tick\n", "no line\n", "tick"} {
				wantPlay(t, head+"\n"+line+"\n"+rest, "", 2, api.ErrLine)
			}
			wantPlay(t, head+"\n"+line, "", 2, api.ErrLine)
		}
		wantPlay(t, head+"\nkey -", "", 2, api.ErrLine)
		wantPlay(t, head+"\nkey 6b", "", 2, api.ErrLine)
		wantPlay(t, head+"\n", "", 2, api.ErrLine)
		wantPlay(t, head+"\n\nkey 6b\n", "", 2, api.ErrLine)
	}
}

// P10.6: then Play returns Parse's error, with the number that the line has in the whole text; this comes before what the config and the key are.
func TestPlayScripts(t *testing.T) {
	heads := []string{headed(exampleConfig(), "k", ""), "config -\nkey -\n", "config 00\nkey -\n", headed(stuckConfig(), "k", "")}
	for _, head := range heads {
		wantPlay(t, head+"tick", "", 3, api.ErrLine)
		wantPlay(t, head+"tick\ntick", "", 4, api.ErrLine)
		wantPlay(t, head+"no line\n", "", 3, api.ErrLine)
		wantPlay(t, head+"tick\n\n#\ntick 1\n", "", 6, api.ErrLine)
		wantPlay(t, head+"config -\n", "", 3, api.ErrLine)
		wantPlay(t, head+"key -\n", "", 3, api.ErrLine)
		wantPlay(t, head+strings.Repeat("tick 1000\n", 5), "", 7, api.ErrMany)
		wantPlay(t, head+strings.Repeat("\n", 1025), "", 1027, api.ErrMany)
	}
	wantPlay(t, heads[0]+strings.Repeat("\n", 1024), "", 0, api.OK)
	wantPlay(t, heads[0]+strings.Repeat("tick 1000\n", 4)+"tick 96\n", "", 0, api.OK)
}

// P10.6: then Play returns config.Decode's error and 1, ErrArg and 2 for the key, and ErrRoute and 1.
func TestPlayConfigsAndKeys(t *testing.T) {
	long := strings.Repeat("00", 65)
	for encoding, wanted := range encodings() {
		word := "-"
		if encoding != "" {
			word = hexOf([]byte(encoding))
		}
		for _, key := range []string{"-", "00", long} {
			wantPlay(t, "config "+word+"\nkey "+key+"\ntick\n", "", 1, wanted)
		}
	}
	// A config or a key of any number of bytes is read.
	wantPlay(t, "config "+strings.Repeat("00", 8100)+"\nkey -\n", "", 1, api.ErrMany)
	good, stuck := "config "+hexOf(encoded(exampleConfig())), "config "+hexOf(encoded(stuckConfig()))
	for _, key := range []string{"-", long, strings.Repeat("ff", 66), strings.Repeat("ab", 8000)} {
		wantPlay(t, good+"\nkey "+key+"\ntick\n", "", 2, api.ErrArg)
		wantPlay(t, stuck+"\nkey "+key+"\ntick\n", "", 2, api.ErrArg)
	}
	for _, key := range []string{"00", long[2:]} {
		wantPlay(t, good+"\nkey "+key+"\ntick\n", "", 0, api.OK)
		wantPlay(t, stuck+"\nkey "+key+"\ntick\n", "", 1, api.ErrRoute)
	}
}

// P10.6: Play returns ErrMany and 0 if there are too many bytes.
func TestPlayLimits(t *testing.T) {
	head := headed(exampleConfig(), "k", "")
	note := "#" + strings.Repeat("x", api.MaxText-len(head)-2) + "\n"
	wantPlay(t, head+note, "", 0, api.OK)
	wantPlay(t, head+"#"+note, "", 0, api.ErrMany)
	wantPlay(t, strings.Repeat("x", 16384), "", 1, api.ErrLine)
	wantPlay(t, strings.Repeat("x", 16385), "", 0, api.ErrMany)
	wantPlay(t, "config "+strings.Repeat("00", 9000)+"\nkey -\n", "", 0, api.ErrMany)
	wantPlay(t, head+strings.Repeat("\n", 16384), "", 0, api.ErrMany)
	wantPlay(t, "", "", 1, api.ErrLine)
}

// P10.6: the outputs that Play returns are those that Run returns, at late ticks and at all ports.
func TestPlayOfPorts(t *testing.T) {
	for _, c := range soundConfigs() {
		tenants, e := config.Tenants(c)
		wantErrno(t, "Tenants", e, api.OK)
		c.Start = api.MaxTick - 2
		var l []api.Step
		for _, tenant := range tenants {
			l = append(l, mintStep(tenant, 1, 5), bytesStep(tenant, []byte{0, 0}))
		}
		l = slices.Concat(l, ticks(3), l)
		script, e := gateway.Format(l)
		wantErrno(t, "Format", e, api.OK)
		outs, e := specRun(encoded(c), []byte("k"), l)
		wantErrno(t, "the definition of Run", e, api.OK)
		wanted := ""
		for _, o := range outs {
			wanted += strconv.FormatUint(o.Tick, 10) + " " + strconv.Itoa(o.Tenant) + " " + hexOf(o.Bytes) + "\n"
		}
		wantPlay(t, headed(c, "k", script), wanted, 0, api.OK)
	}
}

package gateway

import (
	"strconv"
	"strings"

	"dunnage/api"
	"dunnage/config"
)

// The lines in front of the script in a text that is played.
const (
	configWord = "config"
	configLine = 1
	keyWord    = "key"
	keyLine    = 2
)

// Play runs a script that is given as text with its config and its key.
func Play(s string) (out string, line int, e api.Errno) {
	if len(s) > api.MaxText {
		return "", 0, api.ErrMany
	}
	conf, rest, is := headOf(s, configWord)
	if !is {
		return "", configLine, api.ErrLine
	}
	key, rest, is := headOf(rest, keyWord)
	if !is {
		return "", keyLine, api.ErrLine
	}
	steps, line, e := Parse(rest)
	if e != api.OK {
		return "", keyLine + line, e
	}
	if _, e := config.Decode(conf); e != api.OK {
		return "", configLine, e
	}
	outs, e := Run(conf, key, steps)
	switch e {
	case api.OK:
		return textOf(outs), 0, api.OK
	case api.ErrArg:
		// The config can be decoded, so that this is the key's error.
		return "", keyLine, e
	}
	return "", configLine, e
}

// headOf returns the bytes that the first line of a text has after a word, and the text after this line; and whether the line is of this form.
func headOf(s, word string) (b []byte, rest string, is bool) {
	line, rest, isLine := strings.Cut(s, lineEnd)
	text, isNamed := strings.CutPrefix(line, word+gap)
	b, is = bytesOf(text)
	return b, rest, isLine && isNamed && is
}

// textOf returns outputs as text, a line for each.
func textOf(l []api.Out) string {
	var text strings.Builder
	for _, o := range l {
		words := []string{strconv.FormatUint(o.Tick, 10), strconv.Itoa(o.Tenant), wordOf(o.Bytes)}
		text.WriteString(strings.Join(words, gap) + lineEnd)
	}
	return text.String()
}

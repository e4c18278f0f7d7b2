package gateway

import (
	"iter"
	"slices"
	"strconv"
	"strings"

	"dunnage/api"
	"dunnage/digest"
)

// Format returns a script as text.
func Format(l []api.Step) (string, api.Errno) {
	if len(l) > api.MaxSteps {
		return "", api.ErrMany
	}
	for _, s := range l {
		if !isPlain(s) {
			return "", api.ErrBad
		}
	}
	text, many := "", 0
	for line := range linesOf(l) {
		text += line
		many++
		if len(text) > api.MaxText || many > api.MaxLines {
			return "", api.ErrMany
		}
	}
	return text, api.OK
}

// isPlain reports whether a step is one that a line of a text can have: its numbers can be written, and what its kind does not use is 0 or empty.
func isPlain(s api.Step) bool {
	used := api.Step{Kind: s.Kind}
	switch s.Kind {
	case api.StepTick:
	case api.StepBytes:
		used.Tenant, used.Bytes = s.Tenant, s.Bytes
	case api.StepStall:
		used.Tenant, used.Robot = s.Tenant, s.Robot
	case api.StepMint:
		used.Tenant, used.Role, used.Life = s.Tenant, s.Role, s.Life
	default:
		return false
	}
	return sameStep(s, used) && s.Tenant >= 0 && s.Robot >= 0 && s.Life <= maxNumber && len(s.Bytes) <= api.MaxBytes
}

// sameStep reports whether all fields of two steps are the same.
func sameStep(a, b api.Step) bool {
	return a.Kind == b.Kind && a.Tenant == b.Tenant && a.Robot == b.Robot && a.Role == b.Role && a.Life == b.Life && slices.Equal(a.Bytes, b.Bytes)
}

// linesOf ranges over the lines of a text of plain steps, with their line feeds; ticks that follow one another share lines.
func linesOf(l []api.Step) iter.Seq[string] {
	return func(yield func(line string) bool) {
		for rest := l; len(rest) > 0; {
			ticks := ticksInFront(rest)
			if !yield(lineOf(rest[0], ticks)) {
				return
			}
			rest = rest[max(ticks, 1):]
		}
	}
}

// ticksInFront returns how many ticks a script begins with, at most as many as a line can have.
func ticksInFront(l []api.Step) int {
	for i, s := range l {
		if s.Kind != api.StepTick || i == api.MaxRepeat {
			return i
		}
	}
	return len(l)
}

// lineOf returns the line of a plain step, or of so many ticks.
func lineOf(s api.Step, ticks int) string {
	words := []string{tickWord}
	switch s.Kind {
	case api.StepTick:
		if ticks > 1 {
			words = append(words, strconv.Itoa(ticks))
		}
	case api.StepBytes:
		words = []string{bytesWord, strconv.Itoa(s.Tenant), wordOf(s.Bytes)}
	case api.StepStall:
		words = []string{stallWord, strconv.Itoa(s.Tenant), strconv.Itoa(s.Robot)}
	case api.StepMint:
		words = []string{mintWord, strconv.Itoa(s.Tenant), strconv.Itoa(int(s.Role)), strconv.FormatUint(s.Life, 10)}
	}
	return strings.Join(words, gap) + lineEnd
}

// wordOf returns bytes as a word of a text.
func wordOf(b []byte) string {
	if len(b) == 0 {
		return noBytes
	}
	// The bytes of a step, and of a reply, are far fewer than MaxInput, so that there is no error.
	text, _ := digest.Hex(b)
	return text
}

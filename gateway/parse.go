package gateway

import (
	"iter"
	"math"
	"slices"
	"strconv"
	"strings"

	"dunnage/api"
	"dunnage/digest"
)

// What lines of a script as text begin with.
const (
	tickWord  = "tick"
	bytesWord = "bytes"
	stallWord = "stall"
	mintWord  = "mint"
	noteMark  = "#"
)

const (
	lineEnd = "\n"
	gap     = " "
	noBytes = "-"
)

// maxNumber is the greatest number in a script as text.
const maxNumber = math.MaxInt64

// Parse returns the steps of a script as text.
func Parse(s string) (l []api.Step, line int, e api.Errno) {
	if len(s) > api.MaxText {
		return nil, 0, api.ErrMany
	}
	if s != "" && !strings.HasSuffix(s, lineEnd) {
		return nil, 1 + strings.Count(s, lineEnd), api.ErrLine
	}
	p := &parser{}
	defer func() {
		if found := recover(); found != nil {
			// Only require panics here: anything else would be a fault of the program, and is not hidden.
			l, line, e = nil, p.line, found.(api.Errno)
		}
	}()
	for n, text := range lines(s) {
		p.line = n
		require(n <= api.MaxLines, api.ErrMany)
		p.read(text)
	}
	return p.steps, 0, api.OK
}

// lines ranges over the lines of a text, with their numbers from 1 on; each line ends with a line feed.
func lines(s string) iter.Seq2[int, string] {
	return func(yield func(n int, line string) bool) {
		rest := s
		for n := 1; rest != ""; n++ {
			line, after, _ := strings.Cut(rest, lineEnd)
			if !yield(n, line) {
				return
			}
			rest = after
		}
	}
}

// parser has the number of the line that it reads, the words of the line that it has not read yet, and the steps so far.
type parser struct {
	line  int
	words []string
	steps []api.Step
}

// require passes an error up to Parse unless a condition holds.
func require(holds bool, e api.Errno) {
	if !holds {
		panic(e)
	}
}

// read reads a line.
func (p *parser) read(text string) {
	if text == "" || strings.HasPrefix(text, noteMark) {
		return
	}
	p.words = strings.Split(text, gap)
	kinds := map[string]func() []api.Step{
		tickWord:  p.ticks,
		bytesWord: p.bytes,
		stallWord: p.stall,
		mintWord:  p.mint,
	}
	kind, is := kinds[p.word()]
	require(is, api.ErrLine)
	more := kind()
	require(len(p.words) == 0, api.ErrLine)
	require(len(p.steps)+len(more) <= api.MaxSteps, api.ErrMany)
	p.steps = append(p.steps, more...)
}

// ticks reads what follows the first word of a line of ticks.
func (p *parser) ticks() []api.Step {
	many := 1
	if len(p.words) > 0 {
		many = p.index(api.MaxRepeat)
		require(many >= 2, api.ErrLine)
	}
	return slices.Repeat([]api.Step{{Kind: api.StepTick}}, many)
}

// bytes reads what follows the first word of a line of bytes.
func (p *parser) bytes() []api.Step {
	s := api.Step{Kind: api.StepBytes}
	s.Tenant = p.index(maxNumber)
	b, is := bytesOf(p.word())
	require(is && len(b) <= api.MaxBytes, api.ErrLine)
	s.Bytes = b
	return []api.Step{s}
}

// stall reads what follows the first word of a line of a stall.
func (p *parser) stall() []api.Step {
	s := api.Step{Kind: api.StepStall}
	s.Tenant = p.index(maxNumber)
	s.Robot = p.index(maxNumber)
	return []api.Step{s}
}

// mint reads what follows the first word of a line of a token.
func (p *parser) mint() []api.Step {
	s := api.Step{Kind: api.StepMint}
	s.Tenant = p.index(maxNumber)
	s.Role = uint8(p.number(math.MaxUint8))
	s.Life = p.number(maxNumber)
	return []api.Step{s}
}

// word reads a word.
func (p *parser) word() string {
	require(len(p.words) > 0, api.ErrLine)
	word := p.words[0]
	p.words = p.words[1:]
	return word
}

// index reads a number that is an int.
func (p *parser) index(greatest uint64) int { return int(p.number(greatest)) }

// number reads a number up to a greatest one.
func (p *parser) number(greatest uint64) uint64 {
	word := p.word()
	n, e := strconv.ParseUint(word, 10, 64)
	// A number is written in one way only, which rules out leading zeros.
	require(e == nil && strconv.FormatUint(n, 10) == word && n <= greatest, api.ErrLine)
	return n
}

// bytesOf returns the bytes of a word of a text, and whether it is one of bytes.
func bytesOf(word string) ([]byte, bool) {
	if word == noBytes {
		return nil, true
	}
	b, e := digest.ParseHex(word)
	return b, e == api.OK && len(b) > 0
}

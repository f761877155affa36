package lex

import (
	"strconv"
	"strings"
	"unicode/utf8"

	"ecmacore/api"
	"ecmacore/units"
)

// none stands for the code point at the end of a text.
const none rune = -1

// Reader goes through a text; what is wrong there it throws, up to its face. Which words are keywords, and which signs there are, it gathers when it first needs them.
type Reader struct {
	s     string
	at    int
	words map[string]int
	signs map[string]int
}

func (r *Reader) next(slash bool) api.Token {
	line := r.blanks()
	from := r.at
	t := r.token(slash)
	t.From, t.To, t.Line = from, r.at, line
	if tooLong(t.Text) {
		panic(wrong(from))
	}
	return t
}

// tooLong counts units only where the bytes, of which there are no fewer, are too many.
func tooLong(s string) bool { return len(s) > api.MaxString && len(units.Units(s)) > api.MaxString }

// token: of what it is, its place is told by next.
func (r *Reader) token(slash bool) api.Token {
	c, _ := r.look()
	switch {
	case c == none:
		return api.Token{Kind: api.TEnd}
	case c == '\\' || beginsName(c):
		return r.name()
	case r.digitAt(r.at) || c == '.' && r.digitAt(r.at+1):
		return r.number()
	case c == '"' || c == '\'':
		return r.text()
	case c == '/' && slash:
		return r.pattern()
	}
	return r.sign()
}

// look: the code point at the place, and how many bytes it takes.
func (r *Reader) look() (rune, int) {
	if r.at == len(r.s) {
		return none, 0
	}
	c, n := utf8.DecodeRuneInString(r.s[r.at:])
	if c == utf8.RuneError && n == 1 {
		panic(wrong(r.at))
	}
	return c, n
}

// pass: the code point at the place, which is then behind it.
func (r *Reader) pass() rune {
	c, n := r.look()
	r.at += n
	return c
}

// passInLine: likewise, in a token from that byte on, in which no line may end.
func (r *Reader) passInLine(from int) rune {
	c := r.pass()
	if c == none || endsLine(c) {
		panic(wrong(from))
	}
	return c
}

// passAny: is it one of these bytes that stands here? Then it is passed.
func (r *Reader) passAny(these string) bool {
	ok := r.at < len(r.s) && strings.IndexByte(these, r.s[r.at]) >= 0
	if ok {
		r.at++
	}
	return ok
}

func (r *Reader) begins(with string) bool { return strings.HasPrefix(r.s[r.at:], with) }

func (r *Reader) digitAt(at int) bool { return at < len(r.s) && '0' <= r.s[at] && r.s[at] <= '9' }

// blanks passes white space and comments; does a line end in them?
func (r *Reader) blanks() bool {
	line := false
	for {
		switch c, n := r.look(); {
		case white(c):
			line = line || endsLine(c)
			r.at += n
		case r.begins("//"):
			r.lineComment()
		case r.begins("/*"):
			line = r.comment() || line
		default:
			return line
		}
	}
}

// lineComment leaves the end of the line to what comes then: it is white space that ends one.
func (r *Reader) lineComment() {
	for {
		c, n := r.look()
		if c == none || endsLine(c) {
			return
		}
		r.at += n
	}
}

// comment: does a line end in it?
func (r *Reader) comment() bool {
	from := r.at
	line := false
	for r.at += len("/*"); !r.begins("*/"); {
		c := r.pass()
		if c == none {
			panic(wrong(from))
		}
		line = line || endsLine(c)
	}
	r.at += len("*/")
	return line
}

// hex: the unit that so many digits to the base 16 tell.
func (r *Reader) hex(n int) uint16 {
	from := r.at
	for range n {
		if !r.passAny(hexDigits) {
			panic(wrong(r.at))
		}
	}
	u, _ := strconv.ParseUint(r.s[from:r.at], 16, 16) // these are digits, and too few for more than a unit
	return uint16(u)
}

func white(c rune) bool { return isUnit(c) && units.White(uint16(c)) }

func endsLine(c rune) bool { return isUnit(c) && units.EndsLine(uint16(c)) }

func isUnit(c rune) bool { return 0 <= c && c <= 0xffff }

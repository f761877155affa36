package lex

import (
	"strconv"
	"strings"
	"unicode/utf8"

	"ecmacore/api"
	"ecmacore/units"
)

// none stands for the code point at the end of a text.
const none rune = -1

// reader goes through a text; what is wrong there it throws.
type reader struct {
	s  string
	at int
}

func (r *reader) next(slash bool) api.Token {
	line := r.blanks()
	from := r.at
	t := r.token(slash)
	t.From, t.To, t.Line = from, r.at, line
	if len(units.Units(t.Text)) > api.MaxString {
		panic(wrong(from))
	}
	return t
}

// token: of what it is, its place is told by next.
func (r *reader) token(slash bool) api.Token {
	c, _ := r.look()
	switch {
	case c == none:
		return api.Token{Kind: api.TEnd}
	case c == '\\' || beginsName(c):
		return r.name()
	case r.digitAt(r.at) || c == '.' && r.digitAt(r.at+1):
		return r.number()
	case c == '"' || c == '\'':
		return r.text()
	case c == '/' && slash:
		return r.pattern()
	}
	return r.sign()
}

// look: the code point at the place, and how many bytes it takes.
func (r *reader) look() (rune, int) {
	if r.at == len(r.s) {
		return none, 0
	}
	c, n := utf8.DecodeRuneInString(r.s[r.at:])
	if c == utf8.RuneError && n == 1 {
		panic(wrong(r.at))
	}
	return c, n
}

// pass: the code point at the place, which is then behind it.
func (r *reader) pass() rune {
	c, n := r.look()
	r.at += n
	return c
}

// passInLine: likewise, in a token from that byte on, in which no line may end.
func (r *reader) passInLine(from int) rune {
	c := r.pass()
	if c == none || endsLine(c) {
		panic(wrong(from))
	}
	return c
}

// passAny: is it one of these bytes that stands here? Then it is passed.
func (r *reader) passAny(these string) bool {
	ok := r.at < len(r.s) && strings.IndexByte(these, r.s[r.at]) >= 0
	if ok {
		r.at++
	}
	return ok
}

func (r *reader) begins(with string) bool { return strings.HasPrefix(r.s[r.at:], with) }

func (r *reader) digitAt(at int) bool { return at < len(r.s) && '0' <= r.s[at] && r.s[at] <= '9' }

// blanks passes white space and comments; does a line end in them?
func (r *reader) blanks() bool {
	line := false
	for {
		switch c, n := r.look(); {
		case white(c):
			line = line || endsLine(c)
			r.at += n
		case r.begins("//"):
			r.lineComment()
		case r.begins("/*"):
			line = r.comment() || line
		default:
			return line
		}
	}
}

// lineComment leaves the end of the line to what comes then: it is white space that ends one.
func (r *reader) lineComment() {
	for {
		c, n := r.look()
		if c == none || endsLine(c) {
			return
		}
		r.at += n
	}
}

// comment: does a line end in it?
func (r *reader) comment() bool {
	from := r.at
	line := false
	for r.at += len("/*"); !r.begins("*/"); {
		c := r.pass()
		if c == none {
			panic(wrong(from))
		}
		line = line || endsLine(c)
	}
	r.at += len("*/")
	return line
}

// hex: the unit that so many digits to the base 16 tell.
func (r *reader) hex(n int) uint16 {
	from := r.at
	for range n {
		if !r.passAny(hexDigits) {
			panic(wrong(r.at))
		}
	}
	u, _ := strconv.ParseUint(r.s[from:r.at], 16, 16) // these are digits, and too few for more than a unit
	return uint16(u)
}

func white(c rune) bool { return isUnit(c) && units.White(uint16(c)) }

func endsLine(c rune) bool { return isUnit(c) && units.EndsLine(uint16(c)) }

func isUnit(c rune) bool { return 0 <= c && c <= 0xffff }

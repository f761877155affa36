package lex

import (
	"strings"
	"unicode"
	"unicode/utf8"

	"ecmacore/api"
	"ecmacore/num"
	"ecmacore/units"
)

const (
	digits    = "0123456789"
	hexDigits = digits + "abcdefABCDEF"
)

func (r *Reader) name() api.Token {
	t := api.Token{Kind: api.TName, Plain: true}
	var b []byte
	for may := beginsName; ; may = goesOnName {
		c, n := r.look()
		if c == '\\' {
			t.Plain = false
			c, n = r.nameEscape(may), 0
		} else if !may(c) {
			break
		}
		b = utf8.AppendRune(b, c)
		r.at += n
	}
	t.Text = string(b)
	if r.keyword(t.Text) {
		t.Kind = api.TKeyword
	}
	return t
}

func (r *Reader) keyword(s string) bool {
	if r.words == nil {
		r.words = kinds(keywords, api.TKeyword)
	}
	return r.words[s] == api.TKeyword
}

// nameEscape passes it; what it stands for must be one that may stand here.
func (r *Reader) nameEscape(may func(rune) bool) rune {
	from := r.at
	if !r.begins(`\u`) {
		panic(wrong(from))
	}
	r.at += len(`\u`)
	c := rune(r.hex(4))
	if !may(c) {
		panic(wrong(from))
	}
	return c
}

func beginsName(c rune) bool {
	return c == '$' || c == '_' || unicode.IsLetter(c) || unicode.Is(unicode.Nl, c)
}

func goesOnName(c rune) bool {
	return beginsName(c) || unicode.In(c, unicode.Mn, unicode.Mc, unicode.Nd, unicode.Pc) || c == 0x200c || c == 0x200d
}

func (r *Reader) number() api.Token {
	from := r.at
	if r.begins("0x") || r.begins("0X") {
		r.at += len("0x")
		r.someOf(hexDigits)
	} else {
		r.decimal()
	}
	if c, _ := r.look(); c == '\\' || goesOnName(c) {
		panic(wrong(r.at))
	}
	return api.Token{Kind: api.TNumber, Num: num.Read(r.s[from:r.at])}
}

func (r *Reader) decimal() {
	from := r.at
	if r.manyOf(digits) > 1 && r.s[from] == '0' {
		panic(wrong(from))
	}
	if r.passAny(".") {
		r.manyOf(digits)
	}
	if r.passAny("eE") {
		r.passAny("+-")
		r.someOf(digits)
	}
}

// manyOf passes as many of these bytes as stand here, and tells how many.
func (r *Reader) manyOf(these string) int {
	from := r.at
	for r.passAny(these) {
	}
	return r.at - from
}

// someOf: likewise, but one must stand here.
func (r *Reader) someOf(these string) {
	if r.manyOf(these) == 0 {
		panic(wrong(r.at))
	}
}

func (r *Reader) text() api.Token {
	from := r.at
	quote := r.pass()
	t := api.Token{Kind: api.TString, Plain: true}
	var b []byte
	for c := r.passInLine(from); c != quote; c = r.passInLine(from) {
		if c == '\\' {
			t.Plain = false
			b = append(b, r.textEscape(from)...)
		} else {
			b = utf8.AppendRune(b, c)
		}
	}
	t.Text = units.Text(units.Units(string(b))) // two escapes may have told the halves of one code point
	return t
}

// textEscape: what the escape whose stroke was passed stands for, in a string from that byte on.
func (r *Reader) textEscape(from int) string {
	stroke := r.at - 1
	switch c := r.pass(); c {
	case none:
		panic(wrong(from))
	case 'b':
		return "\b"
	case 't':
		return "\t"
	case 'n':
		return "\n"
	case 'v':
		return "\v"
	case 'f':
		return "\f"
	case 'r':
		return "\r"
	case 'x':
		return units.Text([]uint16{r.hex(2)})
	case 'u':
		return units.Text([]uint16{r.hex(4)})
	case '\r':
		r.passAny("\n")
		return ""
	case '0', '1', '2', '3', '4', '5', '6', '7':
		if c != '0' || r.digitAt(r.at) {
			panic(wrong(stroke))
		}
		return "\x00"
	default:
		if endsLine(c) {
			return ""
		}
		return string(c)
	}
}

func (r *Reader) pattern() api.Token {
	from := r.at
	r.pass()
	r.patternBody(from)
	end := r.at
	r.pass()
	flags := r.at
	for c, n := r.look(); goesOnName(c); c, n = r.look() {
		r.at += n
	}
	return api.Token{Kind: api.TRegex, Text: strings.Clone(r.s[from+1 : end]), Flags: strings.Clone(r.s[flags:r.at])}
}

// patternBody passes what stands ahead of the slash that ends the pattern from that byte on.
func (r *Reader) patternBody(from int) {
	for class := false; class || !r.begins("/"); {
		switch r.passInLine(from) {
		case '\\':
			r.passInLine(from)
		case '[':
			class = true
		case ']':
			class = false
		}
	}
}

// sign: the longest that stands here.
func (r *Reader) sign() api.Token {
	if r.signs == nil {
		r.signs = kinds(signs, api.TPunct)
	}
	for n := min(longestSign, len(r.s)-r.at); n > 0; n-- {
		text := r.s[r.at : r.at+n]
		if r.signs[text] == api.TPunct {
			r.at += n
			return api.Token{Kind: api.TPunct, Text: strings.Clone(text)}
		}
	}
	panic(wrong(r.at))
}

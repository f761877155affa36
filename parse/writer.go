package parse

import (
	"math"
	"strconv"
	"strings"
	"unicode/utf8"

	"ecmacore/api"
	"ecmacore/lex"
	"ecmacore/num"
	"ecmacore/units"
)

// writer writes a tree; it throws what it finds wrong there. What it doesn't find is found when the text is read again.
type writer struct {
	b     []byte
	start int  // where a statement that is an expression begins: no { and no function may stand there
	noIn  bool // in is no operator here
}

// nowhereYet: no such statement begins here.
const nowhereYet = -1

// put writes tokens, with a space where two would be one, or a comment.
func (w *writer) put(tokens ...string) {
	for _, t := range tokens {
		if w.full() {
			return
		}
		if len(w.b) > 0 && clash(w.b[len(w.b)-1], t[0]) {
			w.b = append(w.b, ' ')
		}
		w.b = append(w.b, t...)
	}
}

// full: it is more than a program can be, whatever follows: that isn't written any more.
func (w *writer) full() bool { return len(w.b) > api.MaxSource }

func clash(last, next byte) bool {
	if last == next {
		return last == '+' || last == '-' || last == '/' || ofWord(last)
	}
	return ofWord(last) && ofWord(next)
}

// ofWord: is it a byte of names, keywords and numbers?
func ofWord(c byte) bool {
	return c == '$' || c == '_' || '0' <= c && c <= '9' || 'a' <= c && c <= 'z' || 'A' <= c && c <= 'Z' || c >= utf8.RuneSelf
}

// name: or a keyword, which is found when it is read again, if it may not stand here.
func (w *writer) name(s string) {
	if w.full() {
		return
	}
	if !isName(s) {
		panic(api.ErrSyntax)
	}
	w.put(s)
}

func (w *writer) optionalName(s string) {
	if s != "" {
		w.name(s)
	}
}

func isName(s string) bool {
	t, err := lex.Next(s, 0, false)
	return err == nil && t.Text == s && (t.Kind == api.TName || t.Kind == api.TKeyword) && t.To == len(s)
}

// key: of a property.
func (w *writer) key(s string) {
	if !w.full() && isName(s) {
		w.put(s)
	} else {
		w.text(s)
	}
}

// infinite is read as a number that is.
const infinite = "1e999"

// number: one that no token is, NaN or one below 0, is found when it is read again.
func (w *writer) number(x float64) {
	s := num.Text(x)
	if math.IsInf(x, 1) {
		s = infinite
	}
	w.put(s)
}

func (w *writer) pattern(pattern, flags string) {
	if w.full() {
		return
	}
	s := "/" + pattern + "/" + flags
	t, err := lex.Next(s, 0, true)
	if err != nil || t.Kind != api.TRegex || t.Text != pattern || t.Flags != flags || t.To != len(s) {
		panic(api.ErrSyntax)
	}
	w.put(s)
}

// text: of a string.
func (w *writer) text(s string) {
	if w.full() {
		return
	}
	if len(units.Units(s)) > api.MaxString {
		panic(api.ErrSyntax)
	}
	var b strings.Builder
	b.WriteByte('\'')
	for len(s) > 0 {
		n := escape(&b, s)
		s = s[n:]
	}
	b.WriteByte('\'')
	w.put(b.String())
}

// escape writes the first code point, or half of one, and tells how many bytes it takes.
func escape(b *strings.Builder, s string) int {
	c, n := utf8.DecodeRuneInString(s)
	switch {
	case c == '\'' || c == '\\':
		b.WriteString(`\` + s[:1])
	case c == '\n':
		b.WriteString(`\n`)
	case c == '\r':
		b.WriteString(`\r`)
	case c == 0x2028 || c == 0x2029:
		writeUnit(b, uint16(c))
	case c == utf8.RuneError && n == 1:
		n = escapeHalf(b, s)
	default:
		b.WriteString(s[:n])
	}
	return n
}

// escapeHalf: Go's UTF-8 has no halves; all else that it has not is of no string.
func escapeHalf(b *strings.Builder, s string) int {
	const n = len("\xed\xa0\x80")
	l := units.Units(s[:min(n, len(s))])
	if len(l) != 1 || l[0] == utf8.RuneError {
		panic(api.ErrSyntax)
	}
	writeUnit(b, l[0])
	return n
}

// writeUnit: one that needs no zeros ahead of it.
func writeUnit(b *strings.Builder, u uint16) {
	b.WriteString(`\u` + strconv.FormatUint(uint64(u), 16))
}

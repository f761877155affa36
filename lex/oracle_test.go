package lex_test

import (
	"regexp"
	"strconv"
	"strings"
	"testing"

	"ecmacore/api"
	"ecmacore/lex"
)

// oracle tells tokens by regular expressions, which are written from the chapter's words: their kinds and bounds, not their Text.
type oracle struct {
	blank, line, name, plain, escape, number, text, pattern, sign, on *regexp.Regexp
}

func newOracle() oracle {
	const (
		ends  = `\n\r\x{2028}\x{2029}`
		hex   = `[0-9a-fA-F]`
		first = `$_\p{L}\p{Nl}`
		on    = first + `\p{Mn}\p{Mc}\p{Nd}\p{Pc}\x{200c}\x{200d}`
		u     = `\\u` + hex + `{4}`
		other = `\\x` + hex + `{2}|` + u + `|\\\r\n|\\[^0-7xu]`
	)
	quoted := func(q string) string {
		n := `(?:[^0-9\\` + q + ends + `]|` + other + `)`
		return q + `(?:` + n + `|[0-9]|(?:\\0)+` + n + `)*(?:\\0)*` + q
	}
	var signs []string
	for _, p := range strings.Fields(allSigns) { // the longest stand first
		signs = append(signs, regexp.QuoteMeta(p))
	}
	in := `\\[^` + ends + `]`
	return oracle{
		blank:   regexp.MustCompile(`^(?:[\t\v\f\x{feff}\p{Zs}` + ends + `]|//[^` + ends + `]*|/\*(?s:.*?)\*/)*`),
		line:    regexp.MustCompile(`[` + ends + `]`),
		name:    regexp.MustCompile(`^(?:[` + first + `]|` + u + `)(?:[` + on + `]|` + u + `)*`),
		plain:   regexp.MustCompile(`^[` + first + `][` + on + `]*$`),
		escape:  regexp.MustCompile(u),
		number:  regexp.MustCompile(`^(?:0[xX]` + hex + `+|(?:(?:0|[1-9][0-9]*)(?:\.[0-9]*)?|\.[0-9]+)(?:[eE][-+]?[0-9]+)?)`),
		text:    regexp.MustCompile(`^(?:` + quoted(`"`) + `|` + quoted(`'`) + `)`),
		pattern: regexp.MustCompile(`^/(?:[^/\\\[` + ends + `]|` + in + `|\[(?:[^\]\\` + ends + `]|` + in + `)*\])+/[` + on + `]*`),
		sign:    regexp.MustCompile(`^(?:` + strings.Join(signs, "|") + `)`),
		on:      regexp.MustCompile(`^[\\` + on + `]`),
	}
}

// next: the kind, the bounds, and whether a line ends ahead; false: it is wrong.
func (o oracle) next(s string, slash bool) (api.Token, bool) {
	blank := o.blank.FindString(s)
	t := api.Token{From: len(blank), Line: o.line.MatchString(blank)}
	rest := s[t.From:]
	found := func(r *regexp.Regexp, kind int) bool {
		l := r.FindStringIndex(rest)
		if l != nil {
			t.Kind, t.To = kind, t.From+l[1]
		}
		return l != nil
	}
	switch {
	case rest == "":
		t.To = len(s)
		return t, true
	case strings.HasPrefix(rest, "/*"):
		return t, false
	case found(o.name, api.TName):
		return t, !strings.HasPrefix(s[t.To:], `\`) && o.plain.MatchString(o.escape.ReplaceAllStringFunc(s[t.From:t.To], unescaped))
	case found(o.number, api.TNumber):
		return t, !o.on.MatchString(s[t.To:])
	case found(o.text, api.TString):
		return t, true
	case slash && rest[0] == '/':
		return t, found(o.pattern, api.TRegex)
	}
	return t, found(o.sign, api.TPunct)
}

func unescaped(s string) string {
	c, _ := strconv.ParseUint(s[2:], 16, 16)
	return string(rune(c))
}

// P30 to P35: all short texts of some parts.
func TestOracle(t *testing.T) {
	o := newOracle()
	for _, c := range []struct {
		parts []string
		most  int
	}{
		{[]string{"/", "*", "\n", "a", `\`, "[", "]"}, 6},
		{[]string{"'", `\`, "0", "8", "x", "u", "\r", "\n", "\u00e9"}, 5},
		{[]string{"0", "1", ".", "e", "x", "+", `\`}, 6},
		{[]string{"a", `\u0061`, `\u0030`, `\`, "u", "1", " ", "'"}, 5},
		{[]string{">", "=", "!", "<", "&", "/", "."}, 5},
		{[]string{`\u`, "0", "1", "'", `\0`, `\1`, `\x`}, 6},
	} {
		for _, s := range rows(c.parts, c.most) {
			for _, slash := range []bool{false, true} {
				got, err := lex.Next(s, 0, slash)
				want, ok := o.next(s, slash)
				got.Text, got.Flags, got.Num, got.Plain = "", "", 0, false
				if (err == nil) != ok || ok && got != want {
					t.Fatalf("Next(%q, %v) = %+v, %v, want %+v, %v", s, slash, got, err, want, ok)
				}
			}
		}
	}
}

// rows: all that consist of so many parts at most.
func rows(parts []string, most int) []string {
	all := []string{""}
	for from := 0; most > 0; most-- {
		to := len(all)
		for _, s := range all[from:to] {
			for _, p := range parts {
				all = append(all, s+p)
			}
		}
		from = to
	}
	return all
}

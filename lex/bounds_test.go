package lex_test

import (
	"math/rand/v2"
	"strings"
	"testing"

	"ecmacore/api"
	"ecmacore/lex"
)

// P30: how many units a Text may have.
func TestLongest(t *testing.T) {
	for _, c := range []struct {
		ahead, part, behind string
		slash               bool
		units               int // of one part
		kind                int
		text                string // of one part
	}{
		{"", "a", "", false, 1, api.TName, "a"}, {"", "\u00e9", " ", false, 1, api.TName, "\u00e9"}, {"", "\U00010400", "+", false, 2, api.TName, "\U00010400"}, {"", `\u0061`, "", false, 1, api.TName, "a"},
		{"'", "a", "'", false, 1, api.TString, "a"}, {"'", "\uffff", "'", false, 1, api.TString, "\uffff"}, {"'", "\U0001F600", "'", false, 2, api.TString, "\U0001F600"}, {`"`, `\ud83d\ude00`, `"`, false, 2, api.TString, "\U0001F600"}, {`"`, `\ud83d`, `"`, false, 1, api.TString, "\xed\xa0\xbd"}, {`"`, "a\\\n", `"`, false, 1, api.TString, "a"},
		{"/", "a", "/", true, 1, api.TRegex, "a"}, {"/", "\u00e9", "/g", true, 1, api.TRegex, "\u00e9"}, {"/", "\U0001F600", "/", true, 2, api.TRegex, "\U0001F600"}, {"/", `\/`, "/", true, 2, api.TRegex, `\/`},
	} {
		n := api.MaxString / c.units
		s := c.ahead + strings.Repeat(c.part, n) + c.behind
		if got, err := lex.Next("\n"+s, 0, c.slash); err != nil || got.Kind != c.kind || got.Text != strings.Repeat(c.text, n) || got.From != 1 {
			t.Errorf("%q: %d units are not too many: %v", c.part, api.MaxString, err)
		}
		for _, one := range []string{c.part, "b"} {
			s = c.ahead + strings.Repeat(c.part, n) + one + c.behind
			mustBeWrong(t, "\n"+s, 0, c.slash, 1)
			mustBeWrong(t, s, 0, c.slash, 0)
		}
	}
	long := strings.Repeat("a", api.MaxString+1)
	// when all of it was read: what is wrong within, or right behind it, is wrong first
	mustBeWrong(t, long+"\xff", 0, false, len(long))
	mustBeWrong(t, long+`\x`, 0, false, len(long))
	mustBeWrong(t, "'"+long+`\1'`, 0, false, len(long)+1)
	mustBeWrong(t, "'"+long+"\xff", 0, false, len(long)+1)
	mustBeWrong(t, "/"+long+"/\xff", 0, true, len(long)+2)
	// these have no such bound
	if got, err := lex.Next("/a/"+long, 0, true); err != nil || got.Flags != long || got.Text != "a" {
		t.Errorf("flags may be long: %v", err)
	}
	mustBe(t, "/*"+long+"*/", 0, true, end(len(long)+4, false))
	mustBe(t, "//"+long, 0, true, end(len(long)+2, false))
	mustBe(t, strings.Repeat(" ", len(long)), 0, true, end(len(long), false))
}

// P1, P2, P3: whatever stands there, each call ends, and answers alike; where it is wrong, all else is zero; where not, what follows lies behind.
func TestAnything(t *testing.T) {
	parts := []string{"a", "0", "1", ".", "e", "x", "u", "'", `"`, "/", "*", `\`, "\n", "\r", " ", "+", "=", "<", ">", "[", "]", "(", "\u00e9", "\u2028", "\U0001F600", "\xff", "\xed\xa0\xbd", "\xe2", "\x00", "var", "@"}
	src := rand.New(rand.NewPCG(3, 4))
	for range 20000 {
		s := ""
		for range src.IntN(20) {
			s += parts[src.IntN(len(parts))]
		}
		r := lex.NewReader(s)
		for at := 0; at <= len(s); {
			slash := src.IntN(2) == 0
			got, err := lex.Next(s, at, slash)
			r.Next(src.IntN(len(s)+3)-1, src.IntN(2) == 0) // what a reader answers doesn't hang on what it was asked ahead
			again, err2 := r.Next(at, slash)
			if again != got || (err == nil) != (err2 == nil) {
				t.Fatalf("%q: %+v, %v, then %+v, %v", s, got, err, again, err2)
			}
			if err != nil {
				f, ok := err.(*api.Fault)
				if got != (api.Token{}) || !ok || f.Err != api.ErrSyntax || f.At < at || f.At > len(s) {
					t.Fatalf("%q behind %d: %+v, %v", s, at, got, err)
				}
				break
			}
			if got.From < at || got.To < got.From || got.To > len(s) || (got.Kind == api.TEnd) != (got.From == len(s)) || (got.Kind == api.TEnd) != (got.To == got.From) {
				t.Fatalf("%q behind %d: %+v", s, at, got)
			}
			if got.Kind == api.TEnd {
				break
			}
			at = got.To
		}
	}
}

// P1: what is long ends soon.
func TestLong(t *testing.T) {
	const n = 1 << 20
	for _, part := range []string{"a", " ", "/", "//", "/*", "'", `\`, `\u0061`, "1", "0x1", "\u00e9", "[", "/[", "+", "\xff", "/**/", "\n", `'\`} {
		s := strings.Repeat(part, n)
		for _, slash := range []bool{false, true} {
			lex.Next(s, 0, slash)
			lex.Next("'"+s, 0, slash)
			lex.Next("/"+s, 0, slash)
		}
		lex.Keyword(s)
	}
}

package units_test

import (
	"math/rand/v2"
	"slices"
	"strings"
	"testing"
	"unicode"
	"unicode/utf8"

	"ecmacore/units"
)

// P10: texts as units.
func TestUnits(t *testing.T) {
	for _, c := range []struct {
		s    string
		want []uint16
	}{
		{"", nil},
		{"\x00a\x7f", []uint16{0, 'a', 0x7f}},
		{"\u0080\u07ff\u0800\uffff", []uint16{0x80, 0x7ff, 0x800, 0xffff}},
		{"\ud7ff\ue000\ufffd", []uint16{0xd7ff, 0xe000, 0xfffd}},
		{"\U00010000\U0010ffff", []uint16{0xd800, 0xdc00, 0xdbff, 0xdfff}},
		{"a\U0001F600b", []uint16{'a', 0xd83d, 0xde00, 'b'}},
		// halves as three bytes: the least and the greatest, alone and as a pair
		{"\xed\xa0\x80", []uint16{0xd800}},
		{"\xed\xaf\xbf", []uint16{0xdbff}},
		{"\xed\xb0\x80", []uint16{0xdc00}},
		{"\xed\xbf\xbf", []uint16{0xdfff}},
		{"\xed\xa0\xbd\xed\xb8\x80", []uint16{0xd83d, 0xde00}},
		{"\xed\x9f\xbf", []uint16{0xd7ff}},
		// bytes that belong to no code point
		{"\x80", []uint16{0xfffd}},
		{"\xed", []uint16{0xfffd}},
		{"\xed\xa0", []uint16{0xfffd, 0xfffd}},
		{"\xed\xa0A", []uint16{0xfffd, 0xfffd, 'A'}},
		{"\xed\xa0\xc0", []uint16{0xfffd, 0xfffd, 0xfffd}},
		{"\xed\xc0\x80", []uint16{0xfffd, 0xfffd, 0xfffd}},
		{"\xe2\x82", []uint16{0xfffd, 0xfffd}},
		{"\xc0\x80", []uint16{0xfffd, 0xfffd}},
		{"\xe0\x80\x80", []uint16{0xfffd, 0xfffd, 0xfffd}},
		{"\xf4\x90\x80\x80", []uint16{0xfffd, 0xfffd, 0xfffd, 0xfffd}},
		{"a\xffb", []uint16{'a', 0xfffd, 'b'}},
	} {
		got := units.Units(c.s)
		if !slices.Equal(got, c.want) || (got == nil) != (c.want == nil) {
			t.Errorf("Units(%q) = %x, want %x", c.s, got, c.want)
		}
	}
}

// P10: units as a text.
func TestText(t *testing.T) {
	for _, c := range []struct {
		l    []uint16
		want string
	}{
		{nil, ""},
		{[]uint16{}, ""},
		{[]uint16{0, 'a', 0x7ff, 0x800, 0xffff}, "\x00a\u07ff\u0800\uffff"},
		{[]uint16{0xd800, 0xdc00}, "\U00010000"},
		{[]uint16{0xdbff, 0xdfff}, "\U0010ffff"},
		{[]uint16{0xd83d}, "\xed\xa0\xbd"},
		{[]uint16{0xdc00}, "\xed\xb0\x80"},
		{[]uint16{0xdfff, 0xdbff}, "\xed\xbf\xbf\xed\xaf\xbf"},
		{[]uint16{0xd800, 0xd800, 0xdc00, 0xdc00}, "\xed\xa0\x80\U00010000\xed\xb0\x80"},
		{[]uint16{0xd800, 'x', 0xdc00}, "\xed\xa0\x80x\xed\xb0\x80"},
		{[]uint16{0xd800, 0xe000}, "\xed\xa0\x80\ue000"},
	} {
		own := slices.Clone(c.l)
		if got := units.Text(own); got != c.want {
			t.Errorf("Text(%x) = %q, want %q", c.l, got, c.want)
		}
		if !slices.Equal(own, c.l) {
			t.Errorf("Text changed %x to %x", c.l, own)
		}
	}
}

// P10: Units(Text(l)) is l.
func TestThereAndBack(t *testing.T) {
	for u := range 1 << 16 {
		l := []uint16{uint16(u)}
		if got := units.Units(units.Text(l)); !slices.Equal(got, l) {
			t.Fatalf("Units(Text(%x)) = %x", l, got)
		}
	}
	r := rand.New(rand.NewPCG(1, 2))
	edges := []uint16{0, 'a', 0xd7ff, 0xd800, 0xdbff, 0xdc00, 0xdfff, 0xe000, 0xfffd, 0xffff}
	for range 20000 {
		l := make([]uint16, r.IntN(6))
		for i := range l {
			l[i] = edges[r.IntN(len(edges))]
		}
		if got := units.Units(units.Text(l)); !slices.Equal(got, l) {
			t.Fatalf("Units(Text(%x)) = %x", l, got)
		}
	}
}

// P1, P10: of bytes that are no UTF-8 nothing is lost, and what is UTF-8 comes back.
func TestAnyBytes(t *testing.T) {
	r := rand.New(rand.NewPCG(3, 4))
	some := "a\x80\xa0\xbf\xc3\xed\xe2\xf0\x9f\xff"
	for range 20000 {
		b := make([]byte, r.IntN(8))
		for i := range b {
			b[i] = some[r.IntN(len(some))]
		}
		s := string(b)
		back := units.Text(units.Units(s))
		if utf8.ValidString(s) && back != s {
			t.Fatalf("Text(Units(%q)) = %q", s, back)
		}
		if again := units.Text(units.Units(back)); again != back {
			t.Fatalf("Text(Units(%q)) = %q", back, again)
		}
		for _, f := range []func(string) string{units.Upper, units.Lower, units.Trim} {
			if f(s) != f(back) {
				t.Fatalf("of %q %q, of %q %q", s, f(s), back, f(back))
			}
		}
	}
}

// P4: what is answered is new.
func TestNew(t *testing.T) {
	a, b := units.Units("abc"), units.Units("abc")
	a[0] = 'x'
	if b[0] != 'a' || units.Units("abc")[0] != 'a' {
		t.Error("Units answers one list twice")
	}
}

// P11: upper and lower.
func TestCases(t *testing.T) {
	for _, c := range []struct{ s, up, low string }{
		{"", "", ""},
		{"aZ09_", "AZ09_", "az09_"},
		{"\u00e9\u00c9", "\u00c9\u00c9", "\u00e9\u00e9"},
		{"\u00df", "\u00df", "\u00df"}, // no SS: one code point stays one
		{"\u0149", "\u0149", "\u0149"},
		{"\u0130", "\u0130", "i"},
		{"\u03a3\u03c3\u03c2", "\u03a3\u03a3\u03a3", "\u03c3\u03c3\u03c2"}, // whatever stands around it
		{"\u00ff", "\u0178", "\u00ff"},
		{"\u2c65", "\u023a", "\u2c65"},
		{"\u01c5", "\u01c4", "\u01c6"},
		{"\U00010428\U00010400", "\U00010400\U00010400", "\U00010428\U00010428"},
		{"\xed\xa0\x81\xed\xb0\xa8", "\U00010400", "\U00010428"}, // halves that stand together
		{"\xed\xa0\x81a\xed\xb0\xa8", "\xed\xa0\x81A\xed\xb0\xa8", "\xed\xa0\x81a\xed\xb0\xa8"},
		{"a\xffB", "A\ufffdB", "a\ufffdb"},
	} {
		if got := units.Upper(c.s); got != c.up {
			t.Errorf("Upper(%q) = %q, want %q", c.s, got, c.up)
		}
		if got := units.Lower(c.s); got != c.low {
			t.Errorf("Lower(%q) = %q, want %q", c.s, got, c.low)
		}
	}
	for r := range rune(unicode.MaxRune + 1) {
		if !utf8.ValidRune(r) {
			continue
		}
		if got := units.Upper(string(r)); got != string(unicode.ToUpper(r)) {
			t.Fatalf("Upper(%q) = %q", r, got)
		}
		if got := units.Lower(string(r)); got != string(unicode.ToLower(r)) {
			t.Fatalf("Lower(%q) = %q", r, got)
		}
	}
}

// P11: which units are white space, at both ends and not between.
func TestTrim(t *testing.T) {
	const white = "\t\n\v\f\r \u00a0\u1680\u2000\u2001\u2002\u2003\u2004\u2005\u2006\u2007\u2008\u2009\u200a\u2028\u2029\u202f\u205f\u3000\ufeff"
	for u := range 1 << 16 {
		c := units.Text([]uint16{uint16(u)})
		want := c + "a" + c + "b" + c
		if strings.Contains(white, c) {
			want = "a" + c + "b"
		}
		if got := units.Trim(c + "a" + c + "b" + c); got != want {
			t.Fatalf("Trim around unit %x = %q", u, got)
		}
	}
	for s, want := range map[string]string{"": "", white: "", white + "\xff" + white: "\ufffd", " \xed\xa0\x80 ": "\xed\xa0\x80", "\u0085a\u200b\u180e": "\u0085a\u200b\u180e"} {
		if got := units.Trim(s); got != want {
			t.Errorf("Trim(%q) = %q, want %q", s, got, want)
		}
	}
}

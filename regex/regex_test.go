package regex_test

import (
	"math"
	"math/rand/v2"
	"slices"
	"strings"
	"testing"
	"unicode"

	"ecmacore/api"
	"ecmacore/regex"
	"ecmacore/units"
)

const enough = 1 << 20

func compile(t *testing.T, pattern, flags string) *regex.Pattern {
	t.Helper()
	p, err := regex.Compile(pattern, flags)
	if p == nil || err != nil {
		t.Fatalf("Compile(%.40q, %q) = %v, %v", pattern, flags, p, err)
	}
	return p
}

func refuse(t *testing.T, pattern, flags string, want error) {
	t.Helper()
	if p, err := regex.Compile(pattern, flags); p != nil || err != want {
		t.Errorf("Compile(%.40q, %q) = %v, %v, want %v", pattern, flags, p, err, want)
	}
}

// matches: whether all of the units are matched from the first on.
func matches(p *regex.Pattern, l ...uint16) bool {
	got, _, err := p.Match(l, 0, enough)
	return err == nil && len(got) > 1 && got[0] == 0 && got[1] == len(l)
}

func check(t *testing.T, pattern, flags, text string, want ...int) {
	t.Helper()
	got, _, err := compile(t, pattern, flags).Find(units.Units(text), 0, enough)
	if !slices.Equal(got, want) || (got == nil) != (want == nil) || err != nil {
		t.Errorf("/%s/%s on %q: %v, %v, want %v", pattern, flags, text, got, err, want)
	}
}

// P20: flags.
func TestFlags(t *testing.T) {
	for _, f := range []string{"", "g", "i", "m", "gi", "mg", "gim", "mig", "img"} {
		compile(t, "a", f)
	}
	for _, f := range []string{"gg", "ii", "mm", "gimg", "imi", "G", "y", "u", "s", "g ", " ", "\x00", "\xff", "\u0131", "gimx"} {
		refuse(t, "a", f, api.ErrSyntax)
	}
	refuse(t, strings.Repeat("(", 200), "x", api.ErrSyntax) // the flags come first
	refuse(t, strings.Repeat("(", 200), "g", api.ErrDeep)
}

// P20: how many groups there are.
func TestGroups(t *testing.T) {
	for pattern, want := range map[string]int{"": 0, "()": 1, "(a)(b(c)|(d))": 4, "(?:a)(?=b)(?!c)": 0, "(?:(a))(?=(b))(?!(c))": 3, "[(]\\(": 0, "(a){3}": 1, "((((a))))": 4} {
		if got := compile(t, pattern, "").Groups(); got != want {
			t.Errorf("Groups of %q: %d, want %d", pattern, got, want)
		}
	}
}

// P20: how deep brackets may lie.
func TestDeep(t *testing.T) {
	for _, open := range []string{"(", "(?:", "(?=", "(?!", "a|(", "[(](?:"} {
		compile(t, strings.Repeat(open, 119)+strings.Repeat(")", 119), "")
		refuse(t, strings.Repeat(open, 120)+strings.Repeat(")", 120), "", api.ErrDeep)
		refuse(t, strings.Repeat(open, 120), "", api.ErrDeep)
		refuse(t, strings.Repeat(open, 119), "", api.ErrSyntax)
	}
	compile(t, strings.Repeat("()", 300)+strings.Repeat("(", 119)+strings.Repeat(")", 119)+"()", "")
	// what comes first counts
	refuse(t, strings.Repeat("(", 118)+"*"+strings.Repeat("(", 10), "", api.ErrSyntax)
	refuse(t, strings.Repeat("(", 120)+"*", "", api.ErrDeep)
	refuse(t, strings.Repeat("(", 119)+"(?a", "", api.ErrDeep)
	refuse(t, strings.Repeat("(", 119)+"(?", "", api.ErrDeep)
	refuse(t, "\\9"+strings.Repeat("(", 120), "", api.ErrDeep) // back references are looked at last
}

// P20: how many terms there may be.
func TestTerms(t *testing.T) {
	full := strings.Repeat("a", 4096)
	for _, pattern := range []string{full, full + "|", full + "||", full + "*", full + "{2,3}?", "(" + full[1:] + ")", strings.Repeat("^", 4096), strings.Repeat("a+", 4096), strings.Repeat("|a", 4096), strings.Repeat("(a)", 2048), "(?:" + full[1:] + "|)", strings.Repeat("[ab]", 4096), "[" + full + full + "]", strings.Repeat("\\d", 4096)} {
		compile(t, pattern, "")
	}
	// whatever stands there
	for _, more := range []string{"a", "^", "(", "[", "]", "}", "\\", "**", "*{", "++", "???", "{2}{", "|a", "|*", "||("} {
		refuse(t, full+more, "", api.ErrDeep)
	}
	refuse(t, strings.Repeat("^", 4096)+"*", "", api.ErrDeep)
	refuse(t, "("+full+")", "", api.ErrDeep)
	refuse(t, strings.Repeat("(a)", 2048)+"b", "", api.ErrDeep)
	refuse(t, strings.Repeat("|a", 4097), "", api.ErrDeep)
	// nothing begins there, or something was wrong ahead of it
	for _, pattern := range []string{full + ")", full + "|)", full + "{x", full + "{", full + "{2", full + "{2,1}", "*" + full + "a", "(" + full[1:], full[1:] + "[" + full, full[1:] + "\\"} {
		refuse(t, pattern, "", api.ErrSyntax)
	}
}

// P20, P22: back references to groups that there are not.
func TestBackReferencesRead(t *testing.T) {
	for _, pattern := range []string{"\\1()", "()\\1", "(\\1)", "(?=(a))\\1", "(?!(a))\\1", strings.Repeat("()", 12) + "\\12", "()\\1|\\1", "\\1|()"} {
		compile(t, pattern, "")
	}
	for _, pattern := range []string{"\\1", "()\\2", "()\\10", "(?:)\\1", "\\9", "()\\01", "()\\4294967297", "()\\18446744073709551617", "()[\\1]", "[\\9]", strings.Repeat("()", 11) + "\\12"} {
		refuse(t, pattern, "", api.ErrSyntax)
	}
}

// P21: what may stand where.
func TestGrammar(t *testing.T) {
	for _, pattern := range []string{"", "|", "||a", "()", "(|)", "(?:)", "(?=)", "(?!)", "^^$$", "\\b\\B", "a*", "a+", "a?", "a*?", "a+?", "a??", "a{0}", "a{1}?", "a{1,}", "a{1,}?", "a{1,2}", "a{2,2}?", "a{007}", "(a)*", "(?:a)+", ".?", "[a]{2}", "\\d*", "()\\1*", "-", "=", "!", ":", ",", "/", "\n", "\u2028", "\x00", "\xff", "\U0001F600", "\xed\xa0\x80"} {
		compile(t, pattern, "")
	}
	for _, pattern := range []string{
		"*", "+", "?", "{", "}", "]", ")", "[", "(", "{1}", "|*", "(*)", "(?:+)", "(?", "(?)", "(?:", "(?a)", "(??)", "(?<a>b)", "(? :a)", "a)", "(a))", "(a", "[a", "[^", "[]]", "a]", "a}",
		"a**", "a*+", "a+*", "a???", "a*??", "a{1}{1}", "a{1}*", "a?{1}",
		"^*", "$+", "\\b?", "\\B{1}", "(?=a)*", "(?!a)?", "(?=a){1}", "^?",
		"a{", "a{}", "a{,}", "a{,1}", "a{1", "a{1,", "a{1,2", "a{1,2,}", "a{1 }", "a{ 1}", "a{-1}", "a{+1}", "a{x}", "a{1x}", "a{1,x}", "a{\u0661}", "a{2,1}", "a{10,9}", "a{2147483648,2147483646}",
	} {
		refuse(t, pattern, "", api.ErrSyntax)
	}
	compile(t, "a{99999999999999999999,2147483647}", "") // both count as 2^31 - 1
	compile(t, "a{2147483647,2147483648}", "")
	refuse(t, "a{2147483647,2147483646}", "", api.ErrSyntax)
}

// P21: which units stand for themselves.
func TestUnitsAlone(t *testing.T) {
	const wrong, special = "*+?()[]{}\\", "^$.|"
	for u := range 1 << 16 {
		s := units.Text([]uint16{uint16(u)})
		switch {
		case strings.Contains(wrong, s):
			refuse(t, s, "", api.ErrSyntax)
		case strings.Contains(special, s):
			if matches(compile(t, s, ""), uint16(u)) != (s == ".") {
				t.Errorf("/%s/ on itself", s)
			}
		default:
			p := compile(t, s, "")
			if !matches(p, uint16(u)) || matches(p, uint16(u)^1) || matches(p, uint16(u)^0x100) {
				t.Fatalf("unit %x", u)
			}
		}
	}
	p := compile(t, "\U0001F600{2}", "") // two units, of which the second stands twice
	if !matches(p, 0xd83d, 0xde00, 0xde00) || matches(p, 0xd83d, 0xde00, 0xd83d, 0xde00) {
		t.Error("a pair is one atom")
	}
}

// P22: a stroke and any unit, outside of a class and in it.
func TestEscapes(t *testing.T) {
	units1 := map[uint16]uint16{'t': 9, 'n': 10, 'v': 11, 'f': 12, 'r': 13, '0': 0}
	for u := range 1 << 16 {
		c := uint16(u)
		s := "\\" + units.Text([]uint16{c})
		is, named := units1[c]
		r := rune(u)
		switch {
		case strings.ContainsRune("dDsSwWbB", r):
			continue
		case named:
		case r == '$' || r == '_' || r < 0x80 && (unicode.IsLetter(r) || unicode.IsDigit(r)) || r > 0x7f && (unicode.IsLetter(r) || unicode.IsDigit(r)):
			refuse(t, s, "", api.ErrSyntax)
			refuse(t, "["+s+"]", "", api.ErrSyntax)
			continue
		default:
			is = c
		}
		if !matches(compile(t, s, ""), is) || !matches(compile(t, "["+s+"]", ""), is) || matches(compile(t, "[^"+s+"]", ""), is) {
			t.Fatalf("%q does not match %x", s, is)
		}
	}
}

// P22: escapes that name a unit by digits or a letter.
func TestNamedEscapes(t *testing.T) {
	for _, c := range []struct {
		s  string
		is uint16
	}{{"\\x00", 0}, {"\\x4a", 'J'}, {"\\xfF", 0xff}, {"\\u0000", 0}, {"\\u004A", 'J'}, {"\\uABcd", 0xabcd}, {"\\ud83d", 0xd83d}, {"\\cA", 1}, {"\\cz", 26}, {"\\cZ", 26}, {"\\ca", 1}, {"\\0", 0}} {
		p, q := compile(t, c.s, ""), compile(t, "["+c.s+"]", "")
		if !matches(p, c.is) || !matches(q, c.is) || matches(p, c.is+1) || matches(q, c.is+1) {
			t.Errorf("%q does not match %x alone", c.s, c.is)
		}
	}
	for _, s := range []string{"\\", "\\x", "\\x4", "\\xg0", "\\x4g", "\\u", "\\u004", "\\u00g0", "\\u{41}", "\\c", "\\c1", "\\c_", "\\c\u00e9", "\\00", "\\01", "\\09", "\\x\u0661\u0661"} {
		refuse(t, s, "", api.ErrSyntax)
		refuse(t, "["+s+"]", "", api.ErrSyntax)
	}
	check(t, "\\x411", "", "A1", 0, 2)
	check(t, "\\u00411", "", "A1", 0, 2)
	check(t, "\\0a", "", "\x00a", 0, 2)
	check(t, "\\cJJ", "", "\nJ", 0, 2)
	check(t, "\\b", "", "\b")
	check(t, "[\\b]", "", "a\b", 1, 2)
	refuse(t, "[\\B]", "", api.ErrSyntax)
}

// P22: escapes of many units, and all units, with the flag i and without.
func TestManyEscapes(t *testing.T) {
	has := map[string]func(c rune, s string) bool{
		"d": func(c rune, s string) bool { return c >= '0' && c <= '9' },
		"w": func(c rune, s string) bool {
			return c == '_' || c < 0x80 && (unicode.IsLetter(c) || unicode.IsDigit(c))
		},
		"s": func(c rune, s string) bool { return units.Trim(s) == "" },
	}
	for e, f := range has {
		for _, flags := range []string{"", "i"} {
			in, out := compile(t, "\\"+e, flags), compile(t, "\\"+strings.ToUpper(e), flags)
			set, not := compile(t, "[\\"+e+"]", flags), compile(t, "[^\\"+strings.ToUpper(e)+"]", flags)
			for u := range 1 << 16 {
				c := uint16(u)
				want := f(rune(u), units.Text([]uint16{c}))
				if matches(in, c) != want || matches(out, c) == want || matches(set, c) != want || matches(not, c) != want {
					t.Fatalf("\\%s, flags %q, on unit %x: want %v", e, flags, u, want)
				}
			}
		}
	}
}

// P22: classes: which of the units - to ~ they have.
func TestClasses(t *testing.T) {
	for _, c := range []struct{ pattern, has string }{
		{"[]", ""}, {"[a]", "a"}, {"[ab]", "ab"}, {"[a-c]", "abc"}, {"[a-a]", "a"}, {"[-a]", "-a"}, {"[a-]", "-a"}, {"[-]", "-"}, {"[--]", "-"}, {"[---]", "-"}, {"[--/]", "-./"},
		{"[a-c-e]", "-abce"}, {"[a-c-]", "-abc"}, {"[a-cx-z]", "abcxyz"}, {"[b-da-c]", "abcd"}, {"[a-zb-c]", "abcdefghijklmnopqrstuvwxyz"}, {"[a^]", "^a"}, {"[\\^a]", "^a"}, {"[\\]a]", "]a"}, {"[\\\\]", "\\"}, {"[\\-a]", "-a"}, {"[a\\-c]", "-ac"},
		{"[\\d-]", "-0123456789"}, {"[-\\d]", "-0123456789"}, {"[a-b\\d]", "ab0123456789"}, {"[\\x61-\\u0063]", "abc"}, {"[$.*+?(){}|/[]", "./?[{|}"}, {"[\\da-c\\d]", "0123456789abc"}, {"[\\cA-c]", "-./0123456789:;<=>?@ABCDEFGHIJKLMNOPQRSTUVWXYZ[\\]^_`abc"},
		{"[\\b-.]", "-."}, {"[\\0-.]", "-."}, {"[^\\W_]", "0123456789ABCDEFGHIJKLMNOPQRSTUVWXYZabcdefghijklmnopqrstuvwxyz"}, {"[^\x00-}]", "~"}, {"[^^-~]", "-./0123456789:;<=>?@ABCDEFGHIJKLMNOPQRSTUVWXYZ[\\]"},
	} {
		p := compile(t, c.pattern, "")
		for u := '-'; u <= '~'; u++ {
			if matches(p, uint16(u)) != strings.ContainsRune(c.has, u) {
				t.Errorf("/%s/ on %q", c.pattern, u)
			}
		}
	}
	for _, s := range []string{"[", "[^", "[a", "[a-", "[a-b", "[\\]", "[b-a]", "[a-\\x60]", "[\\d-z]", "[a-\\d]", "[\\d-\\w]", "[\\s-.]", "[a--]", "[z-\\b]", "[\\1]", "[\\9-a]", "[\\00]", "[a-\\1]", "[\\c]", "[a-\\c]]", "[\\a]"} {
		refuse(t, s, "", api.ErrSyntax)
	}
	all, point := compile(t, "[^]", ""), compile(t, ".", "")
	for u := range 1 << 16 {
		if !matches(all, uint16(u)) || matches(point, uint16(u)) == slices.Contains([]int{10, 13, 0x2028, 0x2029}, u) {
			t.Fatalf("unit %x", u)
		}
	}
	check(t, "[]a", "", "]a") // [] ends at once
	check(t, "[^]a", "", "]a", 0, 2)
	check(t, "[\U0001F600]", "", "\U0001F600", 0, 1) // its two units
}

// P23: from where, and where alone.
func TestPlaces(t *testing.T) {
	p := compile(t, "a(b)?", "g")
	l := units.Units("xabxa")
	for _, c := range []struct {
		from        int
		find, match []int
	}{
		{math.MinInt, []int{1, 3, 2, 3}, nil}, {-1, []int{1, 3, 2, 3}, nil}, {0, []int{1, 3, 2, 3}, nil}, {1, []int{1, 3, 2, 3}, []int{1, 3, 2, 3}}, {2, []int{4, 5, -1, -1}, nil},
		{4, []int{4, 5, -1, -1}, []int{4, 5, -1, -1}}, {5, nil, nil}, {6, nil, nil}, {math.MaxInt, nil, nil},
	} {
		got, _, err := p.Find(l, c.from, enough)
		if !slices.Equal(got, c.find) || (got == nil) != (c.find == nil) || err != nil {
			t.Errorf("Find from %d = %v, %v, want %v", c.from, got, err, c.find)
		}
		got, _, err = p.Match(l, c.from, enough)
		if !slices.Equal(got, c.match) || (got == nil) != (c.match == nil) || err != nil {
			t.Errorf("Match at %d = %v, %v, want %v", c.from, got, err, c.match)
		}
	}
	empty := compile(t, "", "")
	for _, l := range [][]uint16{nil, {}} { // behind the last unit there is a place, too
		if got, took, err := empty.Find(l, 0, 1); !slices.Equal(got, []int{0, 0}) || took != 1 || err != nil {
			t.Errorf("Find in nothing = %v, %d, %v", got, took, err)
		}
		if got, took, err := empty.Match(l, 0, 1); !slices.Equal(got, []int{0, 0}) || took != 1 || err != nil {
			t.Errorf("Match in nothing = %v, %d, %v", got, took, err)
		}
		for _, at := range []int{-1, 1, math.MinInt, math.MaxInt} { // not even a step is asked for
			if got, took, err := empty.Match(l, at, 0); got != nil || took != 0 || err != nil {
				t.Errorf("Match at %d = %v, %d, %v", at, got, took, err)
			}
		}
		if got, took, err := empty.Find(l, 1, 0); got != nil || took != 0 || err != nil {
			t.Errorf("Find behind the end = %v, %d, %v", got, took, err)
		}
	}
}

// P24: the order of ways.
func TestOrder(t *testing.T) {
	check(t, "a|ab", "", "abc", 0, 1)
	check(t, "ab|a", "", "abc", 0, 2)
	check(t, "(?:a|ab)c", "", "abc", 0, 3)
	check(t, "|a", "", "a", 0, 0)
	check(t, "a|", "", "a", 0, 1)
	check(t, "((a)|(ab))((c)|(bc))", "", "abc", 0, 3, 0, 1, 0, 1, -1, -1, 1, 3, -1, -1, 1, 3)
	check(t, "(a*)(a*)", "", "aaa", 0, 3, 0, 3, 3, 3)
	check(t, "(a*?)(a*)", "", "aaa", 0, 3, 0, 0, 0, 3)
	check(t, "(a+?)(a+)", "", "aaa", 0, 3, 0, 1, 1, 3)
	check(t, "(a??)(a?)", "", "a", 0, 1, 0, 0, 0, 1)
	check(t, "(a*)ab", "", "aaab", 0, 4, 0, 2)
	check(t, "<(.*)>", "", "<a><b>", 0, 6, 1, 5)
	check(t, "<(.*?)>", "", "<a><b>", 0, 3, 1, 2)
	check(t, "b|a", "", "ab", 0, 1) // the first place counts ahead of the first way
}

// P24: loops.
func TestLoops(t *testing.T) {
	check(t, "a{3}", "", "aaaa", 0, 3)
	check(t, "a{3}", "", "aa")
	check(t, "a{2,}", "", "aaaa", 0, 4)
	check(t, "a{2,}?", "", "aaaa", 0, 2)
	check(t, "a{2,3}", "", "aaaa", 0, 3)
	check(t, "a{2,3}?$", "", "aaaa", 1, 4)
	check(t, "a{0}", "", "a", 0, 0)
	check(t, "(a){0}b", "", "ab", 1, 2, -1, -1)
	check(t, "a{0,0}?", "", "a", 0, 0)
	check(t, "(?:a{2}){2}", "", "aaaaa", 0, 4)
	check(t, "(?:(a)|b)*", "", "ab", 0, 2, -1, -1) // forgotten when the second time began
	check(t, "(?:(a)|b)*", "", "ba", 0, 2, 1, 2)
	check(t, "(z)((a+)?(b+)?(c))*", "", "zaacbbbcac", 0, 10, 0, 1, 8, 10, 8, 9, -1, -1, 9, 10)
	check(t, "(?:(a)|(b)){2}\\1", "", "ab", 0, 2, -1, -1, 1, 2)
	check(t, "(?:(a)|b)*c|ab", "", "ab", 0, 2, -1, -1)
	check(t, "(?:(a)|(b)x)*", "", "ab", 0, 1, 0, 1, -1, -1) // the time that failed has forgotten nothing
	check(t, "((a)|(b))*?c", "", "abc", 0, 3, 1, 2, -1, -1, 1, 2)
	// times that end where they began
	check(t, "(a*)*", "", "b", 0, 0, -1, -1)
	check(t, "(a*)+", "", "b", 0, 0, 0, 0)
	check(t, "(a*){2,}", "", "aa", 0, 2, 2, 2)
	check(t, "(a*){0,3}", "", "aa", 0, 2, 0, 2)
	check(t, "(){3}", "", "", 0, 0, 0, 0)
	check(t, "()?", "", "", 0, 0, -1, -1)
	check(t, "(|a)*", "", "a", 0, 1, 0, 1) // the empty way fails, the other is tried
	check(t, "(|a)+", "", "a", 0, 1, 0, 1)
	check(t, "(|a)+?", "", "a", 0, 0, 0, 0)
	check(t, "(?:a?)*?b", "", "aab", 0, 3)
	check(t, "(?:(?=(a)))?a", "", "a", 0, 1, -1, -1)
	check(t, "(?:^)*a", "", "a", 0, 1)
	check(t, "(?:a|b|ab)*c", "", "ababc", 0, 5)
	check(t, "(aa|aabaac|ba|b|c)*", "", "aabaac", 0, 4, 2, 4)
}

// P24: patterns within that pass nothing.
func TestLooks(t *testing.T) {
	check(t, "a(?=b)", "", "aab", 1, 2)
	check(t, "a(?!b)", "", "aba", 2, 3)
	check(t, "(?=(a+))", "", "baaabac", 1, 1, 1, 4)
	check(t, "(?=(a+))a*b\\1", "", "baaabac", 3, 6, 3, 4) // not asked for another way
	check(t, "(?=(a|ab))\\1c", "", "abc")
	check(t, "(.*?)a(?!(a+)b\\2c)\\2(.*)", "", "baaabaac", 0, 8, 0, 2, -1, -1, 3, 8)
	check(t, "(?!(a))b|a", "", "a", 0, 1, -1, -1)
	check(t, "(?!(a)x)a", "", "a", 0, 1, -1, -1)
	check(t, "(?!(?!(a)))(.)", "", "a", 0, 1, -1, -1, 0, 1)
	check(t, "(?=(?=(a))(.))\\1", "", "a", 0, 1, 0, 1, 0, 1)
	check(t, "(?:(?=(a|b))\\1)*", "", "abc", 0, 2, 1, 2)
	check(t, "(?=a*)b|a", "", "a", 0, 1)
	check(t, "(?=)(?!a|b)", "", "abc", 2, 2)
	check(t, "(?!)|", "", "a", 0, 0)
	check(t, "(a|ab)(?=(c))(?:c|d)", "", "abc", 0, 3, 0, 2, 2, 3)
}

// P24: back references.
func TestBackReferences(t *testing.T) {
	check(t, "(a+)-\\1", "", "aa-a", 1, 4, 1, 2)
	check(t, "(a+)\\1", "", "aaaaa", 0, 4, 0, 2)
	check(t, "\\1(a)", "", "aa", 0, 1, 0, 1)
	check(t, "(a\\1)", "", "aa", 0, 1, 0, 1)
	check(t, "(?:(a)|b)\\1", "", "ba", 0, 1, -1, -1)
	check(t, "(a*)b\\1+", "", "baaaac", 0, 1, 0, 0)
	check(t, "(?:(a\\1)){2}", "", "aaa", 0, 2, 1, 2)
	check(t, "(a)(b)(c)(d)(e)(f)(g)(h)(i)(j)\\10", "", "abcdefghijj", append([]int{0, 11}, 0, 1, 1, 2, 2, 3, 3, 4, 4, 5, 5, 6, 6, 7, 7, 8, 8, 9, 9, 10)...)
	check(t, "(ab)\\1", "", "abaB")
	check(t, "(ab\u00e9)\\1", "i", "ab\u00e9AB\u00c9", 0, 6, 0, 3)
	check(t, "(abc)\\1", "", "abcab")
	check(t, "(a)\\1{2}", "", "aaa", 0, 3, 0, 1)
}

// P24: assertions.
func TestAssertions(t *testing.T) {
	for _, end := range []string{"\n", "\r", "\u2028", "\u2029"} {
		check(t, "^b", "", "a"+end+"b")
		check(t, "a$", "", "a"+end+"b")
		check(t, "^b", "m", "a"+end+"b", 2, 3)
		check(t, "a$", "m", "a"+end+"b", 0, 1)
		check(t, "$^", "m", "a"+end+end, 2, 2)
	}
	check(t, "^b", "m", "a\vb")
	check(t, "^b", "m", "a\u0085b")
	check(t, "$^", "", "", 0, 0)
	check(t, "^", "", "a", 0, 0)
	check(t, "$", "", "a\n", 2, 2)
	check(t, "$", "m", "a\n", 1, 1)
	check(t, "\\b", "", "", []int(nil)...)
	check(t, "\\B", "", "", 0, 0)
	check(t, "\\b", "", " a", 1, 1)
	check(t, "a\\b", "", "a", 0, 1)
	check(t, "\\B.", "", "ab c", 1, 2)
	check(t, "a\\B", "", "a aa", 2, 3)
	check(t, "a\\b.", "", "a_a9aAa\u00e9", 6, 8)
	check(t, "s\\b\u017f", "i", "s\u017f", 0, 2) // no plain letter, with i neither
	word := compile(t, "^\\b", "")
	for u := range 1 << 16 {
		want := u == '_' || u >= '0' && u <= '9' || u >= 'a' && u <= 'z' || u >= 'A' && u <= 'Z'
		if got, _, _ := word.Find([]uint16{uint16(u)}, 0, enough); (got != nil) != want {
			t.Fatalf("\\b in front of unit %x: %v", u, got)
		}
	}
}

// P24: the flag i.
func TestAlike(t *testing.T) {
	check(t, "aB", "i", "Ab", 0, 2)
	check(t, "aB", "", "Ab")
	check(t, "[a-z]+", "i", "xYz", 0, 3)
	check(t, "[A-Z]+", "i", "xYz", 0, 3)
	check(t, "[^a]", "i", "Ab", 1, 2)
	check(t, "[^A-Z]", "i", "ab-", 2, 3)
	check(t, "[Z-a]", "i", "Az", 0, 1)
	check(t, "\u00df", "i", "\u1e9e") // an upper one of its own, not ss
	check(t, "\u0131", "i", "I")      // above 7F does not count as below
	check(t, "\u017f", "i", "s")      // likewise
	check(t, "k", "i", "\u212a")      // the Kelvin sign is an upper one itself
	check(t, "\u00e5", "i", "\u212b") // as is the Angstrom sign
	check(t, "[\\W]", "i", "s")       // all but plain letters has none that counts as S
	check(t, "[\\w]", "i", "\u017f")  // nor the other way
	check(t, "\u00ff", "i", "\u0178", 0, 1)
	check(t, "\u03c2", "i", "\u03c3", 0, 1)
	check(t, "[\u0345]", "i", "\u1fbe", 0, 1)
	check(t, "\\x61\\u0062\\cA", "i", "AB\x01", 0, 3)
	check(t, "\U00010428", "i", "\U00010400") // units, not code points
}

// P24: with the flag i each unit matches those that have its upper one, as an atom, in a class, and again.
func TestAlikeAll(t *testing.T) {
	groups := map[uint16][]uint16{}
	for u := range 1 << 16 {
		r := unicode.ToUpper(rune(u))
		if r > 0xffff || r < 0x80 && u >= 0x80 {
			r = rune(u)
		}
		groups[uint16(r)] = append(groups[uint16(r)], uint16(u))
	}
	rnd := rand.New(rand.NewPCG(7, 8))
	repeat := compile(t, "(.)\\1", "i")
	for _, g := range groups {
		if len(g) < 2 {
			continue
		}
		for _, u := range g {
			s := units.Text([]uint16{u})
			one, in, out := compile(t, s, "i"), compile(t, "["+s+"]", "i"), compile(t, "[^"+s+"]", "i")
			others := slices.Clone(g)
			for r := unicode.SimpleFold(rune(u)); r != rune(u); r = unicode.SimpleFold(r) {
				others = append(others, uint16(r))
			}
			for range 20 {
				others = append(others, uint16(rnd.IntN(1<<16)))
			}
			for _, v := range others {
				want := slices.Contains(g, v)
				if matches(one, v) != want || matches(in, v) != want || matches(out, v) == want || matches(repeat, u, v) != want && !units.EndsLine(u) {
					t.Fatalf("units %x and %x: want %v", u, v, want)
				}
			}
		}
	}
}

// P25: what takes a step.
func TestSteps(t *testing.T) {
	for _, c := range []struct {
		pattern, flags, text string
		took                 int
	}{
		{"", "", "", 1}, {"a", "", "", 2}, {"a", "", "bb", 6}, {"a", "", "ba", 4}, {"a(b)", "", "xab", 5},
		{".", "", "a", 2}, {"[ab]", "", "b", 2}, {"[]", "", "", 2}, {"\\d", "", "1", 2}, {"\\x41", "", "A", 2}, {"^", "", "", 2}, {"$", "", "", 2}, {"^", "m", "", 2}, {"\\b", "", "a", 2}, {"\\B", "", "", 2}, {"a", "i", "A", 2},
		{"(abc)\\1", "", "abcabc", 5}, {"\\1()", "", "", 2}, // a back reference is one, however long
		{"()", "", "", 1}, {"(?:)", "", "", 1}, {"(?=)", "", "", 1}, {"(?!a)", "", "", 2}, {"(?=ab)", "", "ab", 3}, {"(?!)", "", "a", 2}, {"((((a))))", "", "a", 2},
		{"a|b", "", "b", 5}, {"a|b|c", "", "a", 3}, {"a|b|c", "", "c", 7}, {"|", "", "", 2}, {"(|)", "", "", 2}, {"(?=a|b)", "", "b", 5}, {"(?:|a)b", "", "ab", 6}, {"(?:a|b)(?:c|d)", "", "bd", 9},
		{"a*", "", "", 3}, {"a*", "", "aa", 7}, {"a*?", "", "aa", 1}, {"a*?b", "", "ab", 5}, {"a+", "", "a", 5}, {"a+?", "", "aa", 3}, {"a?", "", "a", 3}, {"a??", "", "a", 1}, {"a{2}", "", "aa", 5}, {"a{2,3}", "", "aaaa", 7}, {"a{0}", "", "a", 1}, {"(?:){3}", "", "", 4},
		{"(a*)*", "", "b", 4}, {"(?:)*", "", "", 2}, {"(?:a{2}){2}", "", "aaaa", 11}, {"(?:a|b)*", "", "ab", 14},
		{"(?=a|b)c", "", "b", 11}, // what is left of (?= is not tried; then at the end
	} {
		p := compile(t, c.pattern, c.flags)
		l := units.Units(c.text)
		found, took, err := p.Find(l, 0, enough)
		if took != c.took || err != nil {
			t.Errorf("/%s/ on %q took %d, %v, want %d", c.pattern, c.text, took, err, c.took)
		}
		for steps := -1; steps <= c.took+1; steps++ {
			got, took, err := p.Find(l, 0, steps)
			if steps >= c.took && (!slices.Equal(got, found) || took != c.took || err != nil) {
				t.Errorf("/%s/ on %q with %d steps: %v, %d, %v", c.pattern, c.text, steps, got, took, err)
			}
			if steps < c.took && (got != nil || took != max(steps, 0) || err != error(api.ErrSteps)) {
				t.Errorf("/%s/ on %q with %d steps, too few: %v, %d, %v", c.pattern, c.text, steps, got, took, err)
			}
		}
	}
	p := compile(t, "ab", "")
	for _, c := range []struct{ at, took int }{{0, 2}, {1, 3}, {2, 2}, {3, 0}, {-1, 0}} {
		if _, took, err := p.Match(units.Units("xa"), c.at, enough); took != c.took || err != nil {
			t.Errorf("Match at %d took %d, %v, want %d", c.at, took, err, c.took)
		}
	}
	if _, took, err := p.Match(units.Units("ab"), 0, 2); took != 2 || err != error(api.ErrSteps) {
		t.Errorf("Match with a step too few took %d, %v", took, err)
	}
	for _, steps := range []int{math.MinInt, -1, 0} {
		if got, took, err := p.Match(units.Units("ab"), 0, steps); got != nil || took != 0 || err != error(api.ErrSteps) {
			t.Errorf("Match with %d steps: %v, %d, %v", steps, got, took, err)
		}
	}
	if got, took, err := p.Find(units.Units("ab"), 0, math.MaxInt); got == nil || took != 3 || err != nil {
		t.Errorf("with all steps that there are: %v, %d, %v", got, took, err)
	}
}

// P1, P25: what would go on for long ends with the steps, however many choices there are.
func TestLong(t *testing.T) {
	long := slices.Repeat([]uint16{'a'}, 100000)
	for _, pattern := range []string{"(?:a*)*b", "(a|a)*b", "(?:a|b|ab)*c", "(?:){2147483647}", "(?:()|a){2147483647}", "(?:(?:(?:){99999}){99999}){99999}", "(?=(a*)*b)", "(?!(?:a|a)*b)b", "(a*?)*?b", strings.Repeat("(?:", 119) + "a" + strings.Repeat(")*", 119) + "b", "(?:|b)(?:" + strings.Repeat("()", 100) + "){999999}b"} {
		got, took, err := compile(t, pattern, "i").Find(long, 0, 200000)
		if got != nil || took != 200000 || err != error(api.ErrSteps) {
			t.Errorf("/%.40s/: %v, %d, %v", pattern, got, took, err)
		}
	}
	if got, took, err := compile(t, ".*$", "").Find(long, 0, enough); !slices.Equal(got, []int{0, 100000}) || took != 200004 || err != nil {
		t.Errorf("/.*$/: %v, %d, %v", got, took, err)
	}
}

// P1: whatever the pattern, the flags and the text are, a call answers; with an error there is no pattern.
func TestAnything(t *testing.T) {
	r := rand.New(rand.NewPCG(9, 10))
	parts := []string{"a", "b", "\xff", "\xed\xa0\x80", "\U0001F600", "(", ")", "(?:", "(?=", "(?!", "[", "]", "[^", "{", "}", "{2}", "{0,3}", "*", "+", "?", "|", "^", "$", ".", "\\", "\\b", "\\1", "\\d", "\\W", "-", "0", "9", "\\x", "\\u00", "\\c", "\u0131"}
	some := []uint16{0, 'a', 'b', '\n', 0x131, 0xd83d, 0xde00, 0xffff}
	for range 50000 {
		pattern := ""
		for range r.IntN(10) {
			pattern += parts[r.IntN(len(parts))]
		}
		flags := []string{"", "i", "m", "gim", "x", "\xff"}[r.IntN(6)]
		p, err := regex.Compile(pattern, flags)
		if (p == nil) != (err != nil) || err != nil && err != error(api.ErrSyntax) {
			t.Fatalf("Compile(%q, %q) = %v, %v", pattern, flags, p, err)
		}
		l := make([]uint16, r.IntN(6))
		for i := range l {
			l[i] = some[r.IntN(len(some))]
		}
		got, took, err := p.Find(l, r.IntN(9)-1, 500)
		if took > 500 || got != nil && (err != nil || len(got) != 2*p.Groups()+2) {
			t.Fatalf("/%q/ on %x: %v, %d, %v", pattern, l, got, took, err)
		}
		p.Match(l, r.IntN(9)-1, 500)
	}
}

// P1: what Compile gave with an error can be asked, too.
func TestNoPattern(t *testing.T) {
	p, _ := regex.Compile("(", "")
	if p.Groups() != 0 {
		t.Error("it has groups")
	}
	for _, f := range []func([]uint16, int, int) ([]int, int, error){p.Find, p.Match} {
		if got, took, err := f([]uint16{'a'}, 0, 10); got != nil || took != 0 || err != nil {
			t.Errorf("%v, %d, %v", got, took, err)
		}
	}
}

// P2, P4: a pattern keeps nothing from call to call; what is answered is new, and what is handed in stays.
func TestNew(t *testing.T) {
	p := compile(t, "(a)|(b)", "")
	l := units.Units("xab")
	a, _, _ := p.Find(l, 0, enough)
	b, _, _ := p.Find(l, 2, enough)
	p.Find(l, 0, 3)
	c, _, _ := p.Find(l, 0, enough)
	if want := []int{1, 2, 1, 2, -1, -1}; !slices.Equal(a, want) || !slices.Equal(c, want) || !slices.Equal(b, []int{2, 3, -1, -1, 2, 3}) {
		t.Errorf("%v, %v, %v", a, b, c)
	}
	a[0], c[1] = 7, 7
	if d, _, _ := p.Match(l, 1, enough); !slices.Equal(d, []int{1, 2, 1, 2, -1, -1}) {
		t.Errorf("what was answered is answered again, written over: %v", d)
	}
	if !slices.Equal(l, units.Units("xab")) {
		t.Errorf("the text became %x", l)
	}
}

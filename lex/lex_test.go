package lex_test

import (
	"errors"
	"iter"
	"math"
	"strings"
	"testing"
	"unicode"

	"ecmacore/api"
	"ecmacore/lex"
)

// mustBe asks for a token that is all that it should be.
func mustBe(t *testing.T, s string, at int, slash bool, want api.Token) {
	t.Helper()
	if got, err := lex.Next(s, at, slash); err != nil || got != want {
		t.Errorf("Next(%.60q, %d, %v) = %+v, %v, want %+v", s, at, slash, got, err, want)
	}
}

// mustBeWrong asks for the error, and where it is.
func mustBeWrong(t *testing.T, s string, at int, slash bool, where int) {
	t.Helper()
	got, err := lex.Next(s, at, slash)
	f, ok := err.(*api.Fault)
	if got != (api.Token{}) || !ok || *f != (api.Fault{Err: api.ErrSyntax, At: where}) || !errors.Is(err, api.ErrSyntax) {
		t.Errorf("Next(%.60q, %d, %v) = %+v, %v, want wrong at %d", s, at, slash, got, err, where)
	}
}

func end(at int, line bool) api.Token {
	return api.Token{Kind: api.TEnd, From: at, To: at, Line: line}
}

func name(text string, from, to int) api.Token {
	return api.Token{Kind: api.TName, Text: text, From: from, To: to, Plain: true}
}

func sign(text string, from int) api.Token {
	return api.Token{Kind: api.TPunct, Text: text, From: from, To: from + len(text)}
}

// points goes through the code points, but for the planes in which hardly one has a category.
func points() iter.Seq[rune] {
	return func(yield func(rune) bool) {
		for c := rune(0); c <= unicode.MaxRune; c++ {
			switch c {
			case 0xd800:
				c = 0xe000
			case 0x33480:
				c = 0xe0000
			case 0xe0200:
				c = unicode.MaxRune
			}
			if !yield(c) {
				return
			}
		}
	}
}

// P30: where it is looked.
func TestPlace(t *testing.T) {
	mustBe(t, "", 0, false, end(0, false))
	mustBe(t, "", -1, true, end(0, false))
	mustBe(t, "", 1, true, end(0, false))
	mustBe(t, "ab cd", math.MinInt, false, name("ab", 0, 2))
	mustBe(t, "ab cd", 1, false, name("b", 1, 2))
	mustBe(t, "ab cd", 2, false, name("cd", 3, 5))
	mustBe(t, "ab cd", 4, false, name("d", 4, 5))
	mustBe(t, "ab cd", 5, false, end(5, false))
	mustBe(t, "ab cd", math.MaxInt, false, end(5, false))
	mustBe(t, "\u00e9a", 2, false, name("a", 2, 3))
	mustBeWrong(t, "\u00e9a", 1, false, 1)
	mustBe(t, "'a'b", 3, false, name("b", 3, 4))
	mustBe(t, "/a/g", 1, true, name("a", 1, 2))
}

// P30: whether a line ends ahead.
func TestLine(t *testing.T) {
	for _, c := range []struct {
		ahead string
		line  bool
	}{
		{"", false}, {" \t\v\f\u00a0\ufeff\u3000", false}, {"\n", true}, {"\r", true}, {"\r\n", true}, {"\u2028", true}, {"\u2029", true},
		{" \n ", true}, {"\n/**/", true}, {"/**/\n", true}, {"/* * / */", false}, {"/*\n*/", true}, {"/*\r*/ ", true}, {"/*a\u2028*/", true}, {"/*\u2029*/ /**/", true},
		{"//\n", true}, {"// a // b \r", true}, {"///*\u2028", true}, {"//\u2029//\n", true}, {"/*//*/", false}, {"/***/", false}, {"/*/*/", false},
	} {
		n := len(c.ahead)
		want := name("a", n, n+1)
		want.Line = c.line
		mustBe(t, c.ahead+"a", 0, true, want)
		mustBe(t, c.ahead+"a", 0, false, want)
		mustBe(t, c.ahead, 0, true, end(n, c.line))
		kept := sign("}", n+1)
		kept.Line = c.line
		mustBe(t, "a"+c.ahead+"}", 1, false, kept)
	}
	mustBe(t, "// a", 0, true, end(4, false))
	mustBe(t, "//", 0, true, end(2, false))
	mustBe(t, "\na", 1, false, name("a", 1, 2))
	// a line that ends behind a token isn't told of it, nor one within
	mustBe(t, "a\n", 0, false, name("a", 0, 1))
	mustBe(t, "'\\\n'", 0, false, api.Token{Kind: api.TString, To: 4})
}

// P30, P31: what a byte must not be, wherever it is come to.
func TestBytes(t *testing.T) {
	for _, bad := range []string{"\xff", "\x80", "\xc3", "\xe2\x82", "\xc0\x80", "\xed\xa0\xbd", "\xed\xb8\x80", "\xed\xa0\xbd\xed\xb8\x80", "\xf4\x90\x80\x80", "\xf0\x9f\x98"} {
		for _, ahead := range []string{"", " ", "//", "// a", "/*", "/* \n", "/**/", "a", "a1", "var", "\\u0061", "1", "1.", "1.5", ".5", "1e", "1e+", "1e5", "0x", "0x1", "'", "'a", "'\\", "'\\x", "'\\x4", "'\\u", "'\\u004", "'\\0", "'\\\r", "\"", "\u00e9"} {
			mustBeWrong(t, ahead+bad, 0, false, len(ahead))
			mustBeWrong(t, ahead+bad+"'*/\n", 0, true, len(ahead))
		}
		for _, ahead := range []string{"/a", "/[", "/\\", "/[\\", "/a/", "/a/g", "/[/]/gi"} {
			mustBeWrong(t, ahead+bad+"/", 0, true, len(ahead))
		}
		// what ends ahead of it is read
		mustBe(t, "''"+bad, 0, false, api.Token{Kind: api.TString, To: 2, Plain: true})
		mustBe(t, ")"+bad, 0, false, sign(")", 0))
		// what was wrong ahead of it stays so
		mustBeWrong(t, "'\n"+bad, 0, false, 0)
		mustBeWrong(t, "/\n"+bad, 0, true, 0)
		mustBeWrong(t, "07"+bad, 0, true, 0)
	}
	mustBe(t, "'\ufffd'", 0, false, api.Token{Kind: api.TString, Text: "\ufffd", To: 5, Plain: true})
	mustBe(t, "/\ufffd/", 0, true, api.Token{Kind: api.TRegex, Text: "\ufffd", To: 5})
	mustBeWrong(t, "\ufffd", 0, false, 0)
	mustBeWrong(t, "a\ufffd", 1, false, 1)
	mustBe(t, "a\ufffd", 0, false, name("a", 0, 1))
}

// P31: which code points are white space.
func TestWhite(t *testing.T) {
	white := map[rune]bool{'\t': true, '\n': true, '\v': true, '\f': true, '\r': true, ' ': true, 0xa0: true, 0x1680: true, 0x2028: true, 0x2029: true, 0x202f: true, 0x205f: true, 0x3000: true, 0xfeff: true}
	for c := rune(0x2000); c <= 0x200a; c++ {
		white[c] = true
	}
	ends := map[rune]bool{'\n': true, '\r': true, 0x2028: true, 0x2029: true}
	for c := range points() {
		got, err := lex.Next(string(c), 0, false)
		n := len(string(c))
		if is := err == nil && got == end(n, ends[c]); is != white[c] {
			t.Errorf("%U: %+v, %v", c, got, err)
		}
		if got, err = lex.Next("//"+string(c)+"a", 0, false); err != nil || (got.Kind == api.TName) != ends[c] || got.Line != ends[c] {
			t.Errorf("// %U: %+v, %v", c, got, err)
		}
	}
}

// P31: comments that do not end.
func TestOpenComment(t *testing.T) {
	mustBeWrong(t, "/*", 0, true, 0)
	mustBeWrong(t, " /*/", 0, true, 1)
	mustBeWrong(t, "/**/ /* *\n", 0, false, 5)
	mustBeWrong(t, "/* /* */ /*", 0, false, 9)
	mustBe(t, "/* /* */ */", 0, false, sign("*", 9))
	mustBe(t, "/a//*", 0, false, sign("/", 0))
	mustBe(t, "/[/*]/", 0, true, api.Token{Kind: api.TRegex, Text: "[/*]", To: 6})
}

// P32: which code points a name begins with, and goes on with.
func TestNamePoints(t *testing.T) {
	for c := range points() {
		first := c == '$' || c == '_' || unicode.In(c, unicode.L, unicode.Nl)
		other := first || unicode.In(c, unicode.Mn, unicode.Mc, unicode.Nd, unicode.Pc) || c == 0x200c || c == 0x200d
		s := string(c)
		got, err := lex.Next(s, 0, false)
		if is := err == nil && got == name(s, 0, len(s)); is != first {
			t.Errorf("%U begins a name: %v", c, is)
		}
		if got, err = lex.Next("a"+s, 0, false); c == '\\' {
			continue
		}
		want := name("a", 0, 1)
		if other {
			want = name("a"+s, 0, 1+len(s))
		}
		if err != nil || got != want {
			t.Errorf("a%U: %+v, %v", c, got, err)
		}
	}
}

// P32: names, with escapes and without.
func TestNames(t *testing.T) {
	mustBe(t, "$", 0, false, name("$", 0, 1))
	mustBe(t, "_$a1Z9-", 0, false, name("_$a1Z9", 0, 6))
	mustBe(t, "\u2160\u0661\u203f", 0, false, name("\u2160\u0661\u203f", 0, 8))
	mustBe(t, "\U00010400\U000e0100", 0, false, name("\U00010400\U000e0100", 0, 8))
	escaped := func(kind int, text string, to int) api.Token {
		return api.Token{Kind: kind, Text: text, To: to}
	}
	mustBe(t, `\u0061`, 0, false, escaped(api.TName, "a", 6))
	mustBe(t, `\u0061b\u00E9\u00e9`, 0, false, escaped(api.TName, "ab\u00e9\u00e9", 19))
	mustBe(t, `a\u0030`, 0, false, escaped(api.TName, "a0", 7))
	mustBe(t, `\u0024\u005f`, 0, false, escaped(api.TName, "$_", 12))
	mustBe(t, `a\u200c\u200D\u0300`, 0, false, escaped(api.TName, "a\u200c\u200d\u0300", 19))
	mustBe(t, `i\u0066`, 0, false, escaped(api.TKeyword, "if", 7))
	mustBe(t, `\u0069fx`, 0, false, escaped(api.TName, "ifx", 8))
	mustBe(t, `\u00612`, 0, false, escaped(api.TName, "a2", 7))
	for s, at := range map[string]int{
		`\`: 0, `a\`: 1, `a\ u0061`: 1, `\U0061`: 0, `\x61`: 0, `ab\n`: 2, `\u0061\`: 6, "a\\\xff": 1,
		`\u`: 2, `\u006`: 5, `\u{61}`: 2, `\u00g1`: 4, `a\u006 1`: 6, `\u+061`: 2, "\\u006\u00e9": 5,
		`\u0031`: 0, `\u200c`: 0, `\u0300`: 0, `a\u002e`: 1, `a\u0020`: 1, `\u005c`: 0, `a\u0000`: 1,
		`\ud801\udc00`: 0, `a\udc00`: 1, `\u2028`: 0, `\u0061\u002d`: 6,
	} {
		mustBeWrong(t, s, 0, false, at)
		mustBeWrong(t, "\n "+s, 0, true, at+2)
	}
}

const words = "break case catch continue debugger default delete do else finally for function if in instanceof new return switch this throw try typeof var void while with class const enum export extends import super null true false implements interface let package private protected public static yield"

// P32: keywords.
func TestKeywords(t *testing.T) {
	all := strings.Fields(words)
	for _, w := range all {
		if !lex.Keyword(w) {
			t.Errorf("Keyword(%q) is false", w)
		}
		mustBe(t, w, 0, false, api.Token{Kind: api.TKeyword, Text: w, To: len(w), Plain: true})
		mustBe(t, w+"(", 0, false, api.Token{Kind: api.TKeyword, Text: w, To: len(w), Plain: true})
		for _, n := range []string{w + "_", "$" + w, w[:1] + "1", strings.ToUpper(w), w + "\u200c"} {
			if lex.Keyword(n) {
				t.Errorf("Keyword(%q) is true", n)
			}
			mustBe(t, n, 0, false, name(n, 0, len(n)))
		}
	}
	for _, n := range []string{"", " ", "i", "of", "get", "set", "async", "await", "eval", "arguments", "undefined", "NaN", "Infinity", "int", "native", "If", " if", "if ", "i\\u0066", "\xff", "{", strings.Repeat("if", 9999)} {
		if lex.Keyword(n) {
			t.Errorf("Keyword(%.20q) is true", n)
		}
	}
}

// P33: numbers.
func TestNumbers(t *testing.T) {
	for s, x := range map[string]float64{
		"0": 0, "7": 7, "10": 10, "1234567890": 1234567890, "0.": 0, "1.": 1, "0.5": 0.5, ".5": 0.5, ".0": 0, "1.50": 1.5,
		"0e1": 0, "1e3": 1000, "1E3": 1000, "1e+3": 1000, "1e-3": 0.001, "1.e1": 10, ".5e1": 5, "1.5E01": 15, "1e00": 1,
		"1e400": math.Inf(1), "1e-400": 0, "5e-324": 5e-324, "1.7976931348623157e308": math.MaxFloat64, "9007199254740993": 9007199254740992,
		"0x0": 0, "0xf": 15, "0XaF": 175, "0x00ff": 255, "0x1e3": 483, "0x20000000000001": 9007199254740992, "0x1fffffffffffff": 9007199254740991,
	} {
		for _, behind := range []string{"", " ", "\n", "+", ")", "'", "/", "..", ";\xff"} {
			if behind == ".." && strings.Trim(s, "0123456789") == "" {
				continue // a point would belong to it
			}
			mustBe(t, s+behind, 0, true, api.Token{Kind: api.TNumber, Num: x, To: len(s)})
		}
		mustBe(t, " "+s, 0, false, api.Token{Kind: api.TNumber, Num: x, From: 1, To: 1 + len(s)})
		for _, behind := range []string{"$", "_", "z", "in", "\\", "\\u0061", "\u00e9", "\u0300", "\u200d", "\u0661", "\U00010400"} {
			mustBeWrong(t, s+behind, 0, true, len(s))
		}
	}
	mustBe(t, "1..5", 0, false, api.Token{Kind: api.TNumber, Num: 1, To: 2})
	mustBe(t, "1.5.5", 0, false, api.Token{Kind: api.TNumber, Num: 1.5, To: 3})
	mustBe(t, "1.5.x", 0, false, api.Token{Kind: api.TNumber, Num: 1.5, To: 3})
	mustBe(t, "1e5.5", 0, false, api.Token{Kind: api.TNumber, Num: 1e5, To: 3})
	mustBe(t, "0x1.8", 0, false, api.Token{Kind: api.TNumber, Num: 1, To: 3})
	mustBe(t, "-1", 0, false, sign("-", 0))
	mustBe(t, ".e1", 0, false, sign(".", 0))
	mustBe(t, ".x", 0, false, sign(".", 0))
	mustBe(t, ".", 0, false, sign(".", 0))
	mustBe(t, "..5", 0, false, sign(".", 0))
	mustBe(t, ".\u0661", 0, false, sign(".", 0))
	mustBeWrong(t, "\u0661", 0, false, 0)
	long := strings.Repeat("1", 9000)
	mustBe(t, long, 0, false, api.Token{Kind: api.TNumber, Num: math.Inf(1), To: 9000}) // only what has a Text is too long
	mustBe(t, "0x"+long, 0, false, api.Token{Kind: api.TNumber, Num: math.Inf(1), To: 9002})
	mustBe(t, "0."+long, 0, false, api.Token{Kind: api.TNumber, Num: 1.0 / 9, To: 9002})
}

// P33: what is no number.
func TestWrongNumbers(t *testing.T) {
	for s, at := range map[string]int{
		"00": 0, "01": 0, "08": 0, "007": 0, "00.5": 0, "01e1": 0, "08e": 0, "09a": 0, "01\\": 0, "00x1": 0,
		"0x": 2, "0X": 2, "0xg": 2, "0x-1": 2, "0x.1": 2, "0x_1": 2, "0x1g": 3, "0x1\u00e9": 3, "0b1": 1, "0o7": 1, "1n": 1, "1_0": 1,
		"1e": 2, "1e+": 3, "1E-": 3, "1ee": 2, "1e+-1": 3, "1e.5": 2, "1.e": 3, ".5e": 3, ".5ex": 3, "1.x": 2, "1e5x": 3, "1e5e5": 3, "1e 5": 2, "0e": 2,
	} {
		mustBeWrong(t, s, 0, false, at)
		mustBeWrong(t, "\u00a0"+s+" ", 0, true, at+2)
	}
}

// P34: strings.
func TestStrings(t *testing.T) {
	for s, text := range map[string]string{
		"": "", "a": "a", "\x00\x7f": "\x00\x7f", "/* */ // a": "/* */ // a", "\t\v\f\u00a0\u0085": "\t\v\f\u00a0\u0085", "\u00e9\ufeff\U0001F600": "\u00e9\ufeff\U0001F600",
	} {
		for _, q := range []string{`"`, `'`} {
			mustBe(t, q+s+q+q, 0, false, api.Token{Kind: api.TString, Text: text, To: len(s) + 2, Plain: true})
		}
	}
	mustBe(t, `"'"`, 0, false, api.Token{Kind: api.TString, Text: "'", To: 3, Plain: true})
	mustBe(t, `'"'`, 0, true, api.Token{Kind: api.TString, Text: `"`, To: 3, Plain: true})
	for s, text := range map[string]string{
		`\b\t\n\v\f\r`: "\b\t\n\v\f\r", `\x00\x7f\xfF`: "\x00\x7f\u00ff", `\u0041\uFfFf`: "A\uffff", `\x411`: "A1", `\u00411`: "A1",
		`\ud83d\ude00`: "\U0001F600", `\ud83d`: "\xed\xa0\xbd", `\ude00\ud83d`: "\xed\xb8\x80\xed\xa0\xbd", `\ud83dx\ude00`: "\xed\xa0\xbdx\xed\xb8\x80", "\\ud83d\\\n\\ude00": "\U0001F600",
		"a\\\nb": "ab", "a\\\rb": "ab", "a\\\r\nb": "ab", "a\\\u2028b": "ab", "a\\\u2029b": "ab", "\\\n\\\r": "",
		`\0`: "\x00", `\0a`: "\x00a", `\0\0`: "\x00\x00", `\0\x31`: "\x001", `\0\8`: "\x008", "\\0\u0661": "\x00\u0661",
		`\8\9`: "89", `\'\"\\\/`: `'"\/`, `\a\c\e\q\z\B\N\X\U`: "aceqzBNXU", "\\\u00e9\\\U0001F600": "\u00e9\U0001F600", "\\\x00\\ \\\t": "\x00 \t", `\u0022\u000a\u005c`: "\"\n\\", "\\\u00610": "a0",
	} {
		for _, q := range []string{`"`, `'`} {
			mustBe(t, q+s+q, 0, false, api.Token{Kind: api.TString, Text: text, To: len(s) + 2})
			mustBe(t, q+"x"+s+"y"+q, 0, false, api.Token{Kind: api.TString, Text: "x" + text + "y", To: len(s) + 4})
		}
	}
}

// P34: what is no string.
func TestWrongStrings(t *testing.T) {
	for s, at := range map[string]int{
		`'`: 0, `'a`: 0, `'a"`: 0, `'\'`: 0, `'\`: 0, `'a\`: 0, `'\\\`: 0, "'a\n'": 0, "'\r'": 0, "'\u2028'": 0, "'a\u2029'": 0, "'\\\n\n'": 0, "'\\\r\n": 0, "'\\\n\r'": 0, "'\\\r\r\n'": 0,
		`'\x'`: 3, `'\x4'`: 4, `'\xg0'`: 3, `'\x0g'`: 4, `'\x`: 3, `'\x4`: 4, "'\\x4\n'": 4,
		`'\u'`: 3, `'\u004'`: 6, `'\u{41}'`: 3, `'\u00 1'`: 5, `'\u00`: 5, "'\\u0\u00e9'": 4, `'\u+001'`: 3,
		`'\1'`: 1, `'\7'`: 1, `'a\3'`: 2, `'\00'`: 1, `'\07'`: 1, `'\08'`: 1, `'\09'`: 1, `'\377'`: 1, `'\0\1'`: 3, `'\5`: 1, "'\\00\n": 1,
	} {
		mustBeWrong(t, s, 0, false, at)
		mustBeWrong(t, " "+s, 0, true, at+1)
	}
}

// P35: patterns.
func TestPatterns(t *testing.T) {
	for s, flags := range map[string]string{
		"a": "", "=": "g", "=a": "gim", "[/]": "i", "[[/]": "", "[]": "", `[\]/]`: "x", `\/`: "g", `\[`: "", `\\`: "", "]": "", "(": "", "a b": "if", `\u0061`: "$_1", `\*`: "", `[*]`: "\u00e9\u200d\u0300\U00010400",
		"\u00e9\U0001F600": "", "\\\u00e9": "", "\\\U0001F600": "", "\x00": "", "'": "", `"`: "",
	} {
		n := len(s) + 2 + len(flags)
		want := api.Token{Kind: api.TRegex, Text: s, Flags: flags, To: n}
		for _, behind := range []string{"", " ", "\n", "/", ".x", "'", `\u0067`, "\\"} {
			mustBe(t, "/"+s+"/"+flags+behind, 0, true, want)
		}
		want.From, want.To, want.Line = 1, n+1, true
		mustBe(t, "\n/"+s+"/"+flags, 0, true, want)
		alone := "/"
		if s[0] == '=' {
			alone = "/="
		}
		mustBe(t, "/"+s+"/"+flags, 0, false, sign(alone, 0))
	}
	mustBe(t, "/a//", 0, true, api.Token{Kind: api.TRegex, Text: "a", To: 3})
	mustBe(t, "/[]/]/", 0, true, api.Token{Kind: api.TRegex, Text: "[]", To: 4})
	mustBe(t, "//a/", 0, true, end(4, false))
	mustBe(t, "/*a*/", 0, true, end(5, false))
	for _, s := range []string{"/", "/a", "/a\n/", "/\r/", "/a\u2028/", "/\u2029/", "/[/", "/[a/\n]/", `/\`, `/\/`, `/[\]/`, "/\\\n/", "/\\\r\n/", "/\\\u2028/", "/[\\\u2029]/", "/[\n]/", "/=", "/= 1;\n a / b"} {
		mustBeWrong(t, s, 0, true, 0)
		mustBeWrong(t, "/**/"+s, 0, true, 4)
		if got, err := lex.Next(s, 0, false); err != nil || got.Kind != api.TPunct {
			t.Errorf("Next(%q) without patterns: %+v, %v", s, got, err)
		}
	}
}

const allSigns = ">>>= === !== >>> <<= >>= <= >= == != ++ -- << >> && || += -= *= %= &= |= ^= /= { } ( ) [ ] . ; , < > + - * % & | ^ ! ~ ? : = /"

// P35: signs: the longest that stands there, of all rows of signs.
func TestSigns(t *testing.T) {
	list := strings.Fields(allSigns)
	longest := func(s string) string {
		best := ""
		for _, p := range list {
			if strings.HasPrefix(s, p) && len(p) > len(best) {
				best = p
			}
		}
		return best
	}
	for _, a := range list {
		for _, b := range append(list, "", "a", " ", "'") {
			for _, c := range append(list, "", "0") {
				s := a + b + c
				if strings.HasPrefix(s, "//") || strings.HasPrefix(s, "/*") || strings.HasPrefix(s, ".0") {
					continue
				}
				mustBe(t, s, 0, false, sign(longest(s), 0))
			}
		}
		if a[0] != '/' {
			mustBe(t, a, 0, true, sign(a, 0))
		}
	}
	for _, s := range []string{"@", "#", "`", "#!", "@a", "\x00", "\x7f", "\u00a1", "\u2212", "\u200b", "\u200c", "\u0300", "\U0001F600", "\u0085", "\u180e", "\u00ab"} {
		mustBeWrong(t, s, 0, false, 0)
		mustBeWrong(t, "+"+s, 1, true, 1)
		mustBe(t, "+"+s, 0, true, sign("+", 0))
	}
	mustBe(t, "=>", 0, false, sign("=", 0))
	mustBe(t, "**=", 0, false, sign("*", 0))
	mustBe(t, "?.", 0, false, sign("?", 0))
	mustBe(t, "...", 0, false, sign(".", 0))
	mustBe(t, "<!--", 0, false, sign("<", 0))
	mustBe(t, "-->", 0, false, sign("--", 0))
}

package ecmacore_test

import (
	"fmt"
	"strings"
	"testing"

	"ecmacore/api"
	"ecmacore/ecmacore"
	"ecmacore/units"
)

const three = level(3)

// see(v) tells a value with all that is in it, and which flags are missing.
const see = `function see(v) {
	if (v === null || typeof v != 'object') return typeof v == 'string' ? "'" + v + "'" : v === 0 && 1 / v < 0 ? '-0' : v + '';
	var list = Array.isArray(v), s = '';
	Object.getOwnPropertyNames(v).forEach(function (k) {
		var p = Object.getOwnPropertyDescriptor(v, k);
		if (!list || k != 'length') s += (s ? ',' : '') + (list ? '' : k + '=') + see(p.value) + (p.writable && p.enumerable && p.configurable ? '' : '!')
	});
	return list ? '[' + s + ']' + v.length : {}.toString.call(v) == '[object Object]' && Object.getPrototypeOf(v) === Object.prototype ? '{' + s + '}' : {}.toString.call(v) + '{' + s + '}'
} `

// text: a JSON text, as an expression.
func text(json string) string {
	var b strings.Builder
	b.WriteByte('\'')
	for _, u := range units.Units(json) {
		if u < ' ' || u > '~' || u == '\'' || u == '\\' {
			fmt.Fprintf(&b, "\\u%04x", u)
		} else {
			b.WriteByte(byte(u))
		}
	}
	b.WriteByte('\'')
	return b.String()
}

// reads: what parse makes of texts, as see tells it.
func reads(t *testing.T, cases ...[2]string) {
	t.Helper()
	for _, c := range cases {
		three.says(t, see+"print(see(JSON.parse("+text(c[0])+")))", c[1])
	}
}

// refuses: each text is a SyntaxError, and no step is taken.
func refuses(t *testing.T, texts ...string) {
	t.Helper()
	for _, json := range texts {
		if r := three.run("JSON.parse("+text(json)+")", 0); r.How != api.Thrown || r.Text != syntaxError || r.Steps != 0 {
			t.Errorf("%q: %+v", json, r)
		}
	}
}

// P110: JSON itself. (The flags of its properties: package library.)
func TestJSON(t *testing.T) {
	three.gives(t,
		[2]string{"typeof JSON, JSON, {}.toString.call(JSON), Object.getPrototypeOf(JSON) === Object.prototype, Object.getOwnPropertyNames(JSON), Object.keys(JSON), JSON.parse.length, JSON.stringify.length", "object [object JSON] [object JSON] true parse,stringify  2 3"},
		[2]string{"typeof JSON.parse, 'prototype' in JSON.parse, JSON.constructor === Object, Object.isExtensible(JSON), JSON.parse.call(null, '1'), JSON.stringify.call(5, 1), (0, JSON.parse)('[2]')[0]", "function false true true 1 1 2"},
	)
	three.fails(t, typeError, "JSON()", "new JSON", "new JSON.parse('1')", "new JSON.stringify(1)")
	two.fails(t, referenceError, "JSON.parse('1')", "JSON")
	// They are calls as others are.
	const deep = "function f(n) { return n ? f(n - 1) : JSON.parse('[' + JSON.stringify(1) + ']')[0] } "
	three.ends(t, end{src: deep + "print(f(148))", steps: 150, lines: []string{"1"}}, end{src: deep + "f(149)", text: rangeError, steps: 150})
}

// P110: values of all sorts.
func TestParse(t *testing.T) {
	reads(t,
		[2]string{"null", "null"}, [2]string{"true", "true"}, [2]string{"false", "false"}, [2]string{"1", "1"}, [2]string{`"a"`, "'a'"}, [2]string{`""`, "''"},
		[2]string{"[]", "[]0"}, [2]string{"{}", "{}"}, [2]string{"[1]", "[1]1"}, [2]string{`[1,"2",null,true,false,[],{}]`, "[1,'2',null,true,false,[]0,{}]7"},
		[2]string{`{"a":1}`, "{a=1}"}, [2]string{`{"a":[{"b":[]}],"c":{"d":{}}}`, "{a=[{b=[]0}]1,c={d={}}}"}, [2]string{"[[],[[]],[[],[[]]]]", "[[]0,[[]0]1,[[]0,[[]0]1]2]3"},
	)
	three.gives(t,
		[2]string{"JSON.parse('[]') === JSON.parse('[]'), JSON.parse('[]') instanceof Array, JSON.parse('{}') instanceof Object, Object.isFrozen(JSON.parse('{\"a\":1}')), typeof JSON.parse('\"1\"'), typeof JSON.parse('1')", "false true true false string number"},
		[2]string{"JSON.parse(5), JSON.parse(null), JSON.parse(true), JSON.parse(-1.5), JSON.parse(['7']), JSON.parse([[1]]), JSON.parse(Object('\"a\"')), JSON.parse({toString: function () { return '[3]' }})[0]", "5 null true -1.5 7 1 a 3"},
	)
	// No steps, however much there is; and the text is as long as a string may be.
	three.takes(t, taken{"JSON.parse('[[], {\"a\": [1, 2, 3]}, \"x\"]')", 0}, taken{"JSON.parse('[" + strings.Repeat("1,", 4094) + "1]')", 0}, taken{"JSON.parse([1, 2].length)", 0}, taken{"JSON.parse([1])", 1})
	three.says(t, "var a = JSON.parse('["+strings.Repeat("[],", 2729)+"[]]'); print(a.length, a[2729].length, JSON.parse('\""+strings.Repeat("x", 8190)+"\"').length)", "2730 0 8190")
}

// P110: white space around all parts, and no other.
func TestParseSpace(t *testing.T) {
	const sample = `~[~-1.5e1~,~{~"a"~:~"b c"~,~""~:~[~]~}~,~{~}~,~null~]~`
	const want = "[-15,{a='b c',=[]0},{},null]4"
	for _, space := range []string{"", " ", "\t", "\n", "\r", " \t\n\r ", "\r\n"} {
		reads(t, [2]string{strings.ReplaceAll(sample, "~", space), want})
	}
	for _, space := range []string{"\v", "\f", "\u00a0", "\ufeff", "\u2028", "\u2029", "\u2003", "\x00", "\x1f", "/**/", "//\n", "\u0085"} {
		for i := range strings.Count(sample, "~") {
			one := strings.Replace(sample, "~", "", i)
			refuses(t, strings.ReplaceAll(strings.Replace(one, "~", space, 1), "~", ""))
		}
	}
	// None within parts, and some around alone is no value.
	refuses(t, "", " ", "\t\n\r ", "nu ll", "- 1", "1 .5", "1. 5", "1 e5", "1e 5", "1e+ 5", "1 2", "t rue", `"\u 041"`, `"\ n"`)
	reads(t, [2]string{`" "`, "' '"}, [2]string{" 1 ", "1"})
}

// P110: numbers are read as chapter 2 reads them.
func TestParseNumbers(t *testing.T) {
	for _, n := range []string{"0", "-0", "7", "-7", "10", "1234567890", "0.5", "-0.25", "0.000", "1.50", "100.001", "1e5", "1E5", "1e+5", "1e-5", "1E-05", "-1.5E+3", "0e0", "-0e-0", "0.0e10", "12e000", "1e400", "-1e400", "1e-400", "5e-324", "2e-324", "123456789012345678901234567890", "0.1", "9007199254740993", "1.7976931348623157e308", "4294967295"} {
		three.says(t, see+"print(see(JSON.parse('"+n+"')) === see(+'"+n+"'), JSON.parse('["+n+"]')[0] === +'"+n+"', typeof JSON.parse('"+n+"'))", "true true number")
	}
	reads(t, [2]string{"-0", "-0"}, [2]string{"-0.0e5", "-0"}, [2]string{"0", "0"}, [2]string{"1e400", "Infinity"}, [2]string{"-1e999", "-Infinity"}, [2]string{"1E2", "100"}, [2]string{"1.5e-1", "0.15"}, [2]string{strings.Repeat("9", 8192), "Infinity"})
	refuses(t, "-", "+1", "+", ".5", "-.5", "5.", "-5.", "5.e1", ".", "01", "-01", "00", "-00", "001", "1e", "1E", "1e+", "1e-", "1e+-5", "1ee5", "1e5.5", "1.2.3", "1..2", "--1", "-+1", "- 1", "0x10", "0X1", "1_000", "1,000", "Infinity", "-Infinity", "NaN", "1n", "1f", "0b1", "0o7", "\u0661", "[1.]", "[01]", "[-]", "{\"a\":+1}", "1-", "1+1", "e5", "E", "1.e")
}

// P110: strings, their escapes, and units that are halves.
func TestParseStrings(t *testing.T) {
	three.says(t, `print(JSON.parse('"\\"\\\\\\/\\b\\f\\n\\r\\t"') === '"\\/\b\f\n\r\t', JSON.parse('"\\u0041\\u00e9\\u0000\\uFfFf\\uABCD\\uabcd"') === 'A\u00e9\u0000\uffff\uabcd\uabcd', JSON.parse('"a\\u0022b"') === 'a"b', JSON.parse('"/"'), JSON.parse('"\\\\u0041"'))`, `true true true / \u0041`)
	three.says(t, `print(JSON.parse('"\\ud83d\\ude00"') === '\ud83d\ude00', JSON.parse('"\ud83d\\ude00"') === '\ud83d\ude00', JSON.parse('"\\ud83d\ude00"') === '\ud83d\ude00', JSON.parse('"\ud83d\ude00"') === '\ud83d\ude00', JSON.parse('"\ud83d"') === '\ud83d', JSON.parse('"\\ude00\\ud83d"') === '\ude00\ud83d', JSON.parse('"\\ud83dx\\ude00"') === '\ud83dx\ude00', JSON.parse('"\\ud83d\\ude00"').length)`, "true true true true true true true 2")
	// A pair of two ways is one as a key, too.
	three.says(t, `print(JSON.parse('{"\\ud83d\\ude00": 1, "\ud83d\ude00": 2, "\ud83d\\ude00": 3}')['\ud83d\ude00'], Object.keys(JSON.parse('{"\\ud83d\\ude00": 1, "\ud83d\ude00": 2, "\ud83d\\ude00": 3, "\ud83d": 4}')).length)`, "3 2")
	three.says(t, "for (var bad = '', i = 0; i < 600; i++) try { if (JSON.parse('\"' + String.fromCharCode(i) + '\"') !== String.fromCharCode(i)) bad += i + ' ' } catch (e) { bad += i + (e.name == 'SyntaxError' ? '' : e) + ' ' } print(bad)", "0 1 2 3 4 5 6 7 8 9 10 11 12 13 14 15 16 17 18 19 20 21 22 23 24 25 26 27 28 29 30 31 34 92 ")
	three.says(t, "for (var bad = '', i = 600; i < 65536; i += 7) { var u = String.fromCharCode(i), d = i.toString(16), l = '\\\\u' + '0000'.slice(d.length) + d; if (JSON.parse('\"' + u + '\"') !== u || JSON.parse('\"' + l + '\"') !== u || JSON.parse('\"' + l.slice(0, 2) + l.slice(2).toUpperCase() + '\"') !== u) bad += i + ' ' } print(bad)", "")
	three.says(t, "for (var good = '', i = 0; i < 300; i++) try { JSON.parse('\"\\\\' + String.fromCharCode(i) + '\"'); good += String.fromCharCode(i) } catch (e) { if (e.name != 'SyntaxError') good += e } print(good)", `"/\bfnrt`)
	refuses(t, `"`, `"a`, `"\`, `"\"`, `"a\`, `"\u"`, `"\u1"`, `"\u12"`, `"\u123"`, `"\u`, `"\u1`, `"\u123`, `"\u12g4"`, `"\ug123"`, `"\u-123"`, `"\u+123"`, `"\u 123"`, `"\u1_23"`, `"\u0x12"`, `"\U0041"`, `"\x41"`, `"\0"`, `"\1"`, `"\v"`, `"\a"`, `"\'"`, "\"\\\n\"", `'a'`, "`a`", `a`, `"a"b"`, `""""`, "\"\n\"", "\"a\tb\"", `"\u{41}"`, "\"\\u004\u0661\"", `{"\x":1}`, `{"a`, `["a]`)
}

// P110: what is no value, or more than one.
func TestParseWrong(t *testing.T) {
	refuses(t,
		"n", "nul", "nulls", "nullnull", "Null", "NULL", "tru", "truex", "True", "fals", "falsey", "undefined", "x", "_", "function () {}", "(1)", "1;", "#", "=", "!1", "/a/",
		"[", "]", "[]]", "[[]", "[1", "[1,", "[1,]", "[,]", "[,1]", "[1,,2]", "[1 2]", "[1;2]", "[1:2]", "[1}", "[null true]", "[]1", "[][]", "[],", "1,2", ",", ":",
		"{", "}", "{}}", "{{}", "{}{}", "{\"a\"", "{\"a\":", "{\"a\":1", "{\"a\":1,", "{\"a\":1,}", "{\"a\"}", "{\"a\":}", "{:1}", "{,}", "{1:1}", "{a:1}", "{'a':1}", "{null:1}", "{\"a\" 1}", "{\"a\",1}", "{\"a\"=1}", "{\"a\"::1}", "{\"a\":1 \"b\":2}", "{\"a\":1;\"b\":2}", "{\"a\":1,,\"b\":2}", "{,\"a\":1}", "{\"a\":1]", "{[]:1}", "{\"a\":1:2}", "{\"a\":\"b\":1}", "\ufeff1", "1\x00", "\x00", "[\x00]", "{\"a\":\x00}",
	)
	// Each beginning of a text that is more than a number.
	const sample = `{"a":[1,{"b":"c\n\u0041"},null],"d":true}`
	for i := range len(sample) {
		refuses(t, sample[:i])
	}
	// Without an argument, and with what is no text.
	three.fails(t, syntaxError, "JSON.parse()", "JSON.parse(undefined)", "JSON.parse(NaN)", "JSON.parse({})", "JSON.parse([])", "JSON.parse('')", "JSON.parse(Infinity)", "JSON.parse(print)", "JSON.parse('x', function () { print('no') })")
	three.fails(t, typeError, odd+"JSON.parse(bad)", odd+"JSON.parse(bad, print)")
	three.ends(t, end{src: asked + "JSON.parse(v('a', '[1]'), v('b', 1)); JSON.parse(v('c', '[1'), v('d', 1))", text: syntaxError, steps: 6, lines: []string{"a string", "c string"}})
}

// P110: properties have all flags, and later ones come over earlier ones, where these stand.
func TestParseDefined(t *testing.T) {
	reads(t,
		[2]string{`{"a":1,"b":2,"a":3}`, "{a=3,b=2}"}, [2]string{`{"a":{"x":1},"a":{"y":2}}`, "{a={y=2}}"}, [2]string{`{"b":1,"a":2,"1":3,"0":4,"b":5}`, "{0=4,1=3,b=5,a=2}"},
		[2]string{`{"a":1,"\u0061":2}`, "{a=2}"}, [2]string{`{"":1,"":2}`, "{=2}"}, [2]string{`{"__proto__":[1],"constructor":2,"toString":3,"length":4,"hasOwnProperty":5}`, "{__proto__=[1]1,constructor=2,toString=3,length=4,hasOwnProperty=5}"},
		[2]string{`{"4294967294":1,"4294967295":2,"01":3,"1":4,"-0":5}`, "{1=4,4294967294=1,4294967295=2,01=3,-0=5}"}, [2]string{`{"null":null,"true":true}`, "{null=null,true=true}"},
	)
	// What stands behind new objects is not asked.
	const hostile = "function no() { throw 'no' } ['x', '0', 'length'].forEach(function (k) { Object.defineProperty(Object.prototype, k, {get: no, set: no}) }); Object.defineProperty(Array.prototype, '0', {get: no, set: no}); "
	three.says(t, hostile+"var v = JSON.parse('{\"x\": [1, 2], \"0\": {\"length\": 3}}'); print(v.x[0], v.x[1], v[0].length); Object = Array = String = null; print(JSON.parse('[{}]').length)", "1 2 3", "1")
	three.says(t, "Object.freeze(Object.prototype); Object.freeze(Array.prototype); var v = JSON.parse('{\"toString\": 1, \"a\": [5]}'); print(v.toString, v.a[0])", "1 5")
}

// P110: how deep values may lie.
func TestParseDeep(t *testing.T) {
	nested := func(n int, front, inner, back string) string {
		return strings.Repeat(front, n) + inner + strings.Repeat(back, n)
	}
	gives := func(json, want string) {
		t.Helper()
		if r := three.run("JSON.parse("+text(json)+")", many); r.Text != want || r.Steps != 0 {
			t.Errorf("%.20s .. of %d: %+v", json, len(json), r)
		}
	}
	for _, in := range [][2]string{{"[", "]"}, {`{"a":`, "}"}, {" [ 1 , ", " ] "}, {`[{"a":1,"b":`, "}]"}} {
		open := strings.Count(in[0], "[") + strings.Count(in[0], "{")
		for _, value := range []string{"1", "null", "true", "false", `"a"`, "[]", "{}", "-1e5", " [] ", "[1]"} {
			fits := 119 / open // how often it may stand around a value
			if value == "[1]" {
				fits = 118 / open
			}
			gives(nested(fits, in[0], value, in[1]), "")
			gives(nested(fits+1, in[0], value, in[1]), rangeError)
			gives(nested(fits+1, in[0], value, ""), rangeError)
			gives(nested(500, in[0], value, in[1]), rangeError)
		}
	}
	// What is wrong first counts.
	gives(nested(120, "[", "", "]"), "")
	gives(nested(121, "[", "", "]"), rangeError)
	gives(strings.Repeat("[", 121), rangeError)
	gives(strings.Repeat("[", 119), syntaxError)
	gives(nested(120, "[", "1x", "]"), rangeError)
	gives(nested(119, "[", "1x", "]"), syntaxError)
	gives("[x, "+strings.Repeat("[", 500), syntaxError)
	gives("[1 "+strings.Repeat("[", 500), syntaxError)
	gives("[[], "+strings.Repeat("[", 500), rangeError)
	gives(nested(119, "[", "}", "]"), syntaxError)
	gives("["+nested(119, "[", "", "]")+", "+nested(119, "[", "", "]")+", x]", syntaxError)
	// Where no value begins none lies in 120.
	gives(strings.Repeat("[", 120), syntaxError)
	gives(nested(120, "[", "x", "]"), syntaxError)
	gives(strings.Repeat(`{"a":`, 120), syntaxError)
}

// live: how many objects more there are behind a program.
func live(t *testing.T, src, text string) int {
	t.Helper()
	w := ecmacore.New(3)
	before := w.Stats().Live
	if r := w.Run(src, api.Limits{Steps: many}); r.Text != text {
		t.Errorf("%s: %+v", src, r)
	}
	return w.Stats().Live - before
}

// P110, P122: things are made as they are read, and none else.
func TestParseMakes(t *testing.T) {
	for _, c := range []struct {
		json, text string
		made       int
	}{
		{"1", "", 0}, {`"a"`, "", 0}, {"null", "", 0}, {"[]", "", 1}, {"{}", "", 1}, {`[1,"a",[],{"b":[]}]`, "", 4}, {`{"a":[],"a":[]}`, "", 3},
		{"x", syntaxError, 1}, {"[", syntaxError, 2}, {"[[],{", syntaxError, 4}, {"[[]] x", syntaxError, 3}, {"[[]]]", syntaxError, 3}, {`{"a":{},"b":x}`, syntaxError, 3}, {`{"a"`, syntaxError, 2}, {`"[[`, syntaxError, 1},
		{strings.Repeat("[", 121), rangeError, 121}, {strings.Repeat("[", 120) + "1", rangeError, 121}, {strings.Repeat("[", 120) + "{", rangeError, 121},
	} {
		if got := live(t, "JSON.parse("+text(c.json)+")", c.text); got != c.made {
			t.Errorf("%.40s: %d objects, want %d", c.json, got, c.made)
		}
	}
	if got := live(t, "JSON.parse('[[]]', print)", ""); got != 3 {
		t.Errorf("revived: %d objects", got)
	}
	if got := live(t, "JSON.parse('1', {})", ""); got != 1 {
		t.Errorf("not revived: %d objects", got)
	}
}

// P1, P72: much is read again and again in one world, and collected.
func TestParseMuch(t *testing.T) {
	w := ecmacore.New(3)
	src := "var s = '[" + strings.Repeat("{},", 2000) + "[]]'; for (var i = 0; i < 50; i++) JSON.parse(s)"
	if r := w.Run(src, api.Limits{Steps: many}); r.How != api.Ended || r.Steps != 50 {
		t.Errorf("%+v", r)
	}
	if live := w.Stats().Live; live > 12000 {
		t.Errorf("%d objects", live)
	}
	// Keys and strings that are all different.
	json := "{"
	for i := range 500 {
		json += fmt.Sprintf("\"k%d\":\"%d\",", i*7, i)
	}
	three.says(t, "var o = JSON.parse("+"'"+json+"\"k0\":5}'); print(Object.keys(o).length, o.k0, o.k7, o.k3493)", "500 5 1 499")
}

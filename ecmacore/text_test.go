package ecmacore_test

import (
	"fmt"
	"math/rand/v2"
	"strings"
	"testing"

	"ecmacore/api"
	"ecmacore/ecmacore"
)

const two = level(2)

// v(name, x) is an object that is taken for x, and says so.
const asked = `function v(name, x) { return {valueOf: function () { print(name, 'number'); return x }, toString: function () { print(name, 'string'); return x }} } var bad = {valueOf: 0, toString: 0}; `

// P100: parseInt, parseFloat, isNaN, isFinite.
func TestGlobalFunctions(t *testing.T) {
	two.gives(t,
		[2]string{"parseInt('12px'), parseInt(' \\n-0x1F'), parseInt('z', 36), parseInt('Zz', 36), parseInt('101', 2), parseInt('12', 2), parseInt('9', 8), parseInt('0x10', 16), parseInt('0x10', 10), parseInt('010')", "12 -31 35 1295 5 1 NaN 16 0 10"},
		[2]string{"parseInt(), parseInt(''), parseInt('-'), parseInt(null), parseInt(null, 36), parseInt(1.9), parseInt(-1.9), parseInt(1e21), parseInt(1 / 0), parseInt(true), parseInt([7, 8])", "NaN NaN NaN NaN 1112745 1 -1 1 NaN NaN 7"},
		[2]string{"parseInt('11', 0), parseInt('11', 1), parseInt('11', 37), parseInt('11', -2), parseInt('11', NaN), parseInt('11', Infinity), parseInt('11', 4294967298), parseInt('11', '2'), parseInt('11', 2.9), parseInt('11', undefined), parseInt('11', null)", "11 NaN NaN NaN 11 11 3 3 3 11 11"},
		[2]string{"1 / parseInt('-0'), parseInt('9007199254740993'), parseInt('100000000000000000000000000000000000', 2) === 34359738368", "-Infinity 9007199254740992 true"},
		[2]string{"parseFloat('3.5e1x'), parseFloat('.5.5'), parseFloat('.'), parseFloat(''), parseFloat(), parseFloat(' -Infinityx'), parseFloat('1e'), parseFloat('1e+'), parseFloat('0x10'), parseFloat('-.0e5') === 0, 1 / parseFloat('-0'), parseFloat([1.5, 2])", "35 0.5 NaN NaN NaN -Infinity 1 1 0 true -Infinity 1.5"},
		[2]string{"isNaN(), isNaN(NaN), isNaN('a'), isNaN('1'), isNaN(''), isNaN(null), isNaN(undefined), isNaN({}), isNaN([]), isNaN([5]), isNaN(1 / 0), isNaN(true)", "true true true false false false true true false false false false"},
		[2]string{"isFinite(), isFinite(1 / 0), isFinite(-1 / 0), isFinite(NaN), isFinite('5'), isFinite('x'), isFinite(null), isFinite(-0), isFinite(1.7976931348623157e308), isFinite(5e-324)", "false false false false true false true true true true"},
	)
	two.says(t, asked+"print(parseInt(v('a', '11'), v('b', 2), v('c', 1))); print(parseFloat(v('a', '1.5'), v('b', 1)), isNaN(v('c', 1)), isFinite(v('d', 1)))", "a string", "b number", "3", "a string", "c number", "d number", "1.5 false true")
	two.fails(t, typeError, odd+"parseInt(bad, {valueOf: function () { print('no') }})", odd+"parseInt('1', bad)", odd+"parseFloat(bad)", odd+"isNaN(bad)", odd+"isFinite(bad)", "new parseInt('1')", "new isNaN(1)")
	two.takes(t, taken{"parseInt('1'); parseFloat('1'); isNaN(1); isFinite(1)", 0}, taken{"parseInt([1, 2, 3])", 3})
}

// P101: String, called and with new.
func TestStringMade(t *testing.T) {
	two.gives(t,
		[2]string{"typeof String, String.length, String.prototype === Object.getPrototypeOf(Object('')), String.prototype.constructor === String, String.prototype.length, String.prototype + '|', typeof String.prototype", "function 1 true true 0 | object"},
		[2]string{"String() === '', String(undefined), String(null), String(true), String(-0), String(1e21), String('a'), String([1, [2, 3]]), String({}), String(print), String(1, 2), typeof String({})", "true undefined null true 0 1e+21 a 1,2,3 [object Object] function () { [code] } 1 string"},
		[2]string{"typeof new String, new String().length, new String(undefined).length, new String(12) + 1, new String('ab')[1], new String('ab').length, {}.toString.call(new String), new String('a') === new String('a'), new String('a') instanceof String, 'a' instanceof String", "object 0 9 121 b 2 [object String] false true false"},
		[2]string{"Object.getOwnPropertyNames(new String('a\\ud83d\\ude00')), new String('\\ud83d\\ude00')[1] === '\\ude00', new String(new String('q')).valueOf()", "0,1,2,length true q"},
		[2]string{"'abc'.constructor === String, new String('x').toString(), new String('x').valueOf(), typeof new String('x').valueOf()", "true x x string"},
	)
	two.says(t, asked+"print(String(v('a', 5), v('b', 6)), typeof String(v('c', 5))); print(new String(v('d', 7)).length)", "a string", "c string", "5 string", "d string", "1")
	two.fails(t, typeError, odd+"String(bad)", odd+"new String(bad)", "String.prototype = 1", "String.length = 2", "new ''.charAt(0)", "new String.fromCharCode(1)")
	two.takes(t, taken{"String(); new String('ab'); String({})", 0}, taken{"String([1, 2])", 2}, taken{"new String([1, 2, 3])", 3})
}

// P101: fromCharCode.
func TestFromCharCode(t *testing.T) {
	two.gives(t,
		[2]string{"String.fromCharCode() === '', String.fromCharCode(97, 66, 'c', '0x64') === 'aB\\u0000d', String.fromCharCode(97, 65633, 65536 + 98, -65439) === 'aaba'", "true true true"},
		[2]string{"String.fromCharCode(55357, 56832), String.fromCharCode(55357).length, String.fromCharCode(56832, 55357).length, String.fromCharCode(55357) + String.fromCharCode(56832) === '\\ud83d\\ude00'", "\U0001F600 1 2 true"},
		[2]string{"String.fromCharCode(-1).charCodeAt(0), String.fromCharCode(NaN).charCodeAt(0), String.fromCharCode(1 / 0).charCodeAt(0), String.fromCharCode(65.9), String.fromCharCode(-65535.5).charCodeAt(0), String.fromCharCode(4294967296 + 97), String.fromCharCode(1e20 + 65536).charCodeAt(0), String.fromCharCode(undefined).charCodeAt(0), String.fromCharCode(null, true).length", "65535 0 0 A 1 a 0 0 2"},
		[2]string{"String.fromCharCode.call(5, 97), String.fromCharCode.apply(null, [104, 105]), String.fromCharCode.length", "a hi 1"},
	)
	two.says(t, asked+"print(String.fromCharCode(v('a', 97), v('b', 98)))", "a number", "b number", "ab")
	row := strings.Repeat("97,", 8191)
	two.says(t, "print(String.fromCharCode("+row+"97).length)", "8192")
	two.ends(t, end{src: asked + "String.fromCharCode(" + row + "v('a', 1), v('b', 2))", text: rangeError, steps: 4, lines: []string{"a number", "b number"}})
	two.ends(t, end{src: asked + "String.fromCharCode(v('a', 1), bad, v('b', 2))", text: typeError, steps: 3, lines: []string{"a number"}})
}

// P101: on what the functions of String's prototype can be called.
func TestTextReceivers(t *testing.T) {
	functions := "charAt charCodeAt concat indexOf lastIndexOf localeCompare match search replace slice substring split toLowerCase toLocaleLowerCase toUpperCase toLocaleUpperCase trim"
	for _, name := range strings.Fields(functions) {
		f := "String.prototype." + name + ".call("
		no := "{valueOf: print, toString: print}"
		two.fails(t, typeError, f+"undefined, "+no+", "+no+")", f+"null, "+no+")", f+"void 0)", odd+f+"bad, "+no+", "+no+")", "''."+name+".apply()", "var f = ''."+name+"; f('a')", "new ''."+name)
		two.says(t, "var n = 0; "+f+"{toString: function () { n++; return 'a' }, valueOf: print}, 1); print(n)", "1")
		two.says(t, "print(''."+name+".call(15, 1, 1) === '15'."+name+"(1, 1) || ''."+name+".call(15, 1, 1) + '' === '15'."+name+"(1, 1) + '')", "true")
	}
	two.gives(t,
		[2]string{"''.charAt.call(true, 1), ''.charAt.call(15, 1), ''.slice.call([1, 2], 1), ''.toUpperCase.call({}), ''.trim.call(new String(' q ')), ''.concat.call(/a/g, 1), ''.indexOf.call(print, 'code'), ''.charAt.call('\\ud83d\\ude00', 1) === '\\ude00'", "r 5 ,2 [OBJECT OBJECT] q /a/g1 15 true"},
	)
	// The text is there ahead of all else.
	two.says(t, asked+"print(''.indexOf.call(v('this', 'abcb'), v('first', 'b'), v('second', 2))); ''.charAt.call(v('this', 1), v('first', 1)); ''.concat.call(v('this', 1), v('first', 1), v('second', 2)); ''.replace.call(v('this', 1), v('first', 1), v('second', 2)); ''.localeCompare.call(v('this', 1), v('first', 1))",
		"this string", "first string", "second number", "3", "this string", "first number", "this string", "first string", "second string", "this string", "first string", "second string", "this string", "first string")
	two.says(t, asked+"print(''.lastIndexOf.call(v('this', 'abcb'), v('first', 'b'), v('second', 2))); ''.slice.call(v('this', 1), v('first', 1), v('second', 2)); ''.substring.call(v('this', 1), v('first', 1), v('second', 2)); ''.split.call(v('this', 1), v('first', 1), v('second', 2))",
		"this string", "first string", "second number", "1", "this string", "first number", "second number", "this string", "first number", "second number", "this string", "second number", "first string")
}

// P101: charAt, charCodeAt, concat.
func TestUnitsOfTexts(t *testing.T) {
	two.gives(t,
		[2]string{"'abc'.charAt(), 'abc'.charAt(1), 'abc'.charAt('2'), 'abc'.charAt(1.9), 'abc'.charAt(-0.9), 'abc'.charAt(NaN), 'abc'.charAt(undefined), 'abc'.charAt(null)", "a b c b a a a a"},
		[2]string{"'abc'.charAt(3) === '', 'abc'.charAt(-1) === '', 'abc'.charAt(1 / 0) === '', 'abc'.charAt(-1 / 0) === '', ''.charAt(0) === '', 'abc'.charAt(4294967296) === ''", "true true true true true true"},
		[2]string{"'abc'.charCodeAt(), 'abc'.charCodeAt(2), 'abc'.charCodeAt('1'), 'abc'.charCodeAt(3), 'abc'.charCodeAt(-1), 'abc'.charCodeAt(1 / 0), ''.charCodeAt(), 'a\\u00e9\\ud83d\\ude00'.charCodeAt(1), 'a\\u00e9\\ud83d\\ude00'.charCodeAt(2), 'a\\u00e9\\ud83d\\ude00'.charCodeAt(3), '\\uffff'.charCodeAt(0)", "97 99 98 NaN NaN NaN NaN 233 55357 56832 65535"},
		[2]string{"'\\ud83d\\ude00'.charAt(0) === '\\ud83d', '\\ud83d\\ude00'.charAt(1).length, '\\ud83d\\ude00'.charAt(0) + '\\ud83d\\ude00'.charAt(1)", "true 1 \U0001F600"},
		[2]string{"'a'.concat(), 'a'.concat(1), 'a'.concat(1, null, undefined, true, [2, 3], {}), ''.concat('', ''), 'a'.concat('b').length, '\\ud83d'.concat('\\ude00') === '\\ud83d\\ude00'", "a a1 a1nullundefinedtrue2,3[object Object]  2 true"},
	)
	two.says(t, "var s = 'a', u = s.concat('b'); print(s, u, typeof ''.concat.call(5, 5), ''.concat.call(5, 5))", "a ab string 55")
	two.fails(t, typeError, odd+"'a'.charAt(bad)", odd+"'a'.charCodeAt(bad)", odd+"'a'.concat('b', bad)")
	two.says(t, "print("+of(4096, "a")+".concat("+of(4096, "b")+").length)", "8192")
	two.ends(t, end{src: asked + of(8000, "a") + ".concat(" + of(190, "b") + ", v('a', 12), v('b', 3), v('c', 4))", text: rangeError, steps: 5, lines: []string{"a string", "b string"}})
	two.takes(t, taken{"'abc'.charAt(1); 'abc'.charCodeAt(1); 'abc'.concat(1, 2)", 0}, taken{"'a'.concat([1, 2], [3])", 3})
}

// P101: indexOf and lastIndexOf.
func TestTextIndex(t *testing.T) {
	two.gives(t,
		[2]string{"'abcabc'.indexOf('c'), 'abcabc'.indexOf('ca'), 'abcabc'.indexOf('c', 2), 'abcabc'.indexOf('c', 3), 'abcabc'.indexOf('c', 6), 'abcabc'.indexOf('z'), 'abcabc'.indexOf('abcabcd'), 'abcabc'.indexOf('abcabc')", "2 2 2 5 -1 -1 -1 0"},
		[2]string{"'abc'.indexOf(''), 'abc'.indexOf('', 2), 'abc'.indexOf('', 3), 'abc'.indexOf('', 99), ''.indexOf(''), ''.indexOf('a'), 'abc'.indexOf('', -5), 'abc'.indexOf('', 1 / 0)", "0 2 3 3 0 -1 0 3"},
		[2]string{"'abca'.indexOf('a', -1), 'abca'.indexOf('a', 0.9), 'abca'.indexOf('a', 1.9), 'abca'.indexOf('a', NaN), 'abca'.indexOf('a', '1'), 'abca'.indexOf('a', -1 / 0), 'abca'.indexOf('a', 1 / 0), 'abca'.indexOf('a', undefined), 'abca'.indexOf('a', null), 'abca'.indexOf('a', 4294967297)", "0 0 3 0 3 0 -1 0 0 -1"},
		[2]string{"'undefined'.indexOf(), 'a1,2'.indexOf([1, 2]), 'xnull'.indexOf(null), 'a/b/'.indexOf(/b/), '121'.indexOf(1, 1)", "0 1 1 1 2"},
		[2]string{"'\\ud83d\\ude00\\ude00'.indexOf('\\ude00'), '\\ud83d\\ude00'.indexOf('\\ud83d'), 'a\\ud83d\\ude00'.indexOf('\\ud83d\\ude00'), '\\ud83d\\ud83d\\ude00'.indexOf('\\ud83d\\ude00'), '\\u00e9a'.indexOf('a'), 'a'.indexOf('\\u00e9'), '\\u00e9\\u00e9b'.indexOf('\\u00e9b')", "1 0 1 1 1 -1 1"},
		[2]string{"'abcabc'.lastIndexOf('c'), 'abcabc'.lastIndexOf('ca'), 'abcabc'.lastIndexOf('c', 5), 'abcabc'.lastIndexOf('c', 4), 'abcabc'.lastIndexOf('c', 1), 'abcabc'.lastIndexOf('abc', 3), 'abcabc'.lastIndexOf('abc', 2), 'abcabc'.lastIndexOf('z'), 'ab'.lastIndexOf('abc')", "5 2 5 2 -1 3 0 -1 -1"},
		[2]string{"'abc'.lastIndexOf(''), 'abc'.lastIndexOf('', 1), 'abc'.lastIndexOf('', 0), 'abc'.lastIndexOf('', -1), 'abc'.lastIndexOf('', 99), ''.lastIndexOf(''), ''.lastIndexOf('a')", "3 1 0 0 3 0 -1"},
		[2]string{"'aba'.lastIndexOf('a', NaN), 'aba'.lastIndexOf('a', undefined), 'aba'.lastIndexOf('a', 'x'), 'aba'.lastIndexOf('a', null), 'aba'.lastIndexOf('a', -1), 'aba'.lastIndexOf('b', -1), 'aba'.lastIndexOf('a', 1.9), 'aba'.lastIndexOf('a', 1 / 0), 'aba'.lastIndexOf('a', -1 / 0), 'aba'.lastIndexOf('a', '2'), 'aba'.lastIndexOf('a', {})", "2 2 2 0 0 -1 0 2 0 2 2"},
		[2]string{"'\\ude00\\ud83d\\ude00'.lastIndexOf('\\ude00'), '\\ude00\\ud83d\\ude00'.lastIndexOf('\\ude00', 1), '\\ud83d\\ude00'.lastIndexOf('\\ud83d'), 'undefined'.lastIndexOf()", "2 0 0 0"},
	)
	two.fails(t, typeError, odd+"'a'.indexOf(bad, {valueOf: function () { print('no') }})", odd+"'a'.indexOf('a', bad)", odd+"'a'.lastIndexOf(bad)", odd+"'a'.lastIndexOf('a', bad)")
	two.takes(t, taken{"'abc'.indexOf('c'); 'abc'.lastIndexOf('a')", 0}, taken{"'abc'.indexOf([1, 2], [3])", 3}, taken{"'abc'.lastIndexOf([1, 2], [3])", 3})
}

// P101: localeCompare goes by units, not by code points.
func TestLocaleCompare(t *testing.T) {
	two.gives(t,
		[2]string{"'a'.localeCompare('b'), 'b'.localeCompare('a'), 'a'.localeCompare('a'), 'a'.localeCompare('B'), 'ab'.localeCompare('b'), 'ab'.localeCompare('a'), 'a'.localeCompare('ab'), ''.localeCompare(''), ''.localeCompare('a'), 'z'.localeCompare('\\u00e9')", "-1 1 0 1 -1 1 -1 0 -1 -1"},
		[2]string{"'\\ud83d\\ude00'.localeCompare('\\uffff'), '\\uffff'.localeCompare('\\ud83d\\ude00'), '\\ud83d'.localeCompare('\\ud83d\\ude00'), '\\ud83d\\uffff'.localeCompare('\\ud83d\\ude00')", "-1 1 -1 1"},
		[2]string{"'undefined'.localeCompare(), 'null'.localeCompare(null), '5'.localeCompare(5), '1,2'.localeCompare([1, 2]), ''.localeCompare.call(5, '5')", "0 0 0 0 0"},
	)
	two.takes(t, taken{"'a'.localeCompare('b')", 0}, taken{"'a'.localeCompare([1, 2])", 2})
	two.fails(t, typeError, odd+"'a'.localeCompare(bad)")
}

// P103: slice and substring.
func TestPiecesOfTexts(t *testing.T) {
	two.gives(t,
		[2]string{"'abcdef'.slice(), 'abcdef'.slice(2), 'abcdef'.slice(1, 3), 'abcdef'.slice(-2), 'abcdef'.slice(-4, -2), 'abcdef'.slice(0, -1), 'abcdef'.slice(-99, 2), 'abcdef'.slice(4, 99)", "abcdef cdef bc ef cd abcde ab ef"},
		[2]string{"'abc'.slice(2, 1) === '', 'abc'.slice(3) === '', 'abc'.slice(99) === '', 'abc'.slice(1, 1) === '', 'abc'.slice(0, 0) === '', 'abc'.slice(-1, -2) === '', ''.slice(0, 1) === ''", "true true true true true true true"},
		[2]string{"'abc'.slice(undefined, 2), 'abc'.slice(1, undefined), 'abc'.slice(1, null) === '', 'abc'.slice(NaN), 'abc'.slice('1', '2'), 'abc'.slice(1.9), 'abc'.slice(-1.9), 'abc'.slice(-1 / 0), 'abc'.slice(0, 1 / 0), 'abc'.slice(-4294967297)", "ab bc true abc b bc c abc abc abc"},
		[2]string{"'abcdef'.substring(), 'abcdef'.substring(2), 'abcdef'.substring(1, 3), 'abcdef'.substring(3, 1), 'abcdef'.substring(-2), 'abcdef'.substring(-2, 2), 'abcdef'.substring(2, -2), 'abcdef'.substring(4, 99), 'abcdef'.substring(99, 4)", "abcdef cdef bc bc abcdef ab ab ef ef"},
		[2]string{"'abc'.substring(undefined, 2), 'abc'.substring(1, undefined), 'abc'.substring(1, null), 'abc'.substring(NaN, 1), 'abc'.substring(1, NaN), 'abc'.substring('2', '1'), 'abc'.substring(1 / 0, 1), 'abc'.substring(2, 2) === '', ''.substring(1, 2) === '', 'abc'.substring(-1 / 0, 1.9)", "ab bc a a a b bc true true a"},
		[2]string{"'\\ud83d\\ude00'.slice(0, 1) === '\\ud83d', '\\ud83d\\ude00'.slice(-1) === '\\ude00', 'a\\u00e9b\\ud83d\\ude00c'.slice(1, 5), 'a\\u00e9b\\ud83d\\ude00c'.substring(5, 2), '\\u00e9\\u00e9'.substring(1).length", "true true \u00e9b\U0001F600 b\U0001F600 1"},
	)
	two.fails(t, typeError, odd+"'a'.slice(bad, {valueOf: function () { print('no') }})", odd+"'a'.slice(0, bad)", odd+"'a'.substring(bad)", odd+"'a'.substring(0, bad)")
	two.takes(t, taken{"'abc'.slice(1, 2); 'abc'.substring(1, 2)", 0}, taken{"'abc'.slice([1], [2])", 2}, taken{"'abc'.substring([1], [2])", 2})
}

// P104: toLowerCase and its likes, trim.
func TestCases(t *testing.T) {
	two.gives(t,
		[2]string{"'aBc1-'.toUpperCase(), 'aBc1-'.toLowerCase(), 'aBc'.toLocaleUpperCase(), 'aBc'.toLocaleLowerCase(), ''.toUpperCase() === '', ''.toLowerCase() === ''", "ABC1- abc1- ABC abc true true"},
		[2]string{"'\\u00e9\\u00df\\u0131\\u017f'.toUpperCase(), '\\u00c9\\u0130\\u1e9e'.toLowerCase() === '\\u00e9i\\u00df', '\\ud801\\udc28'.toUpperCase() === '\\ud801\\udc00', '\\ud801\\udc00'.toLocaleLowerCase() === '\\ud801\\udc28', '\\ud801'.toLowerCase() === '\\ud801', '\\udc28'.toUpperCase() === '\\udc28'", "\u00c9\u00dfIS true true true true true"},
		[2]string{"'\\u03a3'.toLowerCase() === '\\u03c3', '\\u01c5'.toUpperCase() === '\\u01c4', '\\u01c5'.toLowerCase() === '\\u01c6'", "true true true"},
		[2]string{"' a b '.trim() + '|', '\\t\\n\\u000b\\f\\r \\u00a0\\ufeff\\u2028\\u2029\\u2003x\\u1680'.trim() + '|', ' \\n'.trim() === '', ''.trim() === '', '\\u200bx'.trim().length, 'a'.trim(), ' \\ud83d '.trim() === '\\ud83d'", "a b| x| true true 2 a true"},
		[2]string{"'a'.toUpperCase(5), ''.toUpperCase.call([1, 'a']), ''.trim.call(' 5 '), typeof ''.trim.call(5), 'A'.toLowerCase.length", "A 1,A 5 string 0"},
	)
	two.takes(t, taken{"'abc'.toUpperCase(); 'abc'.toLowerCase(); 'abc'.toLocaleUpperCase(); 'abc'.toLocaleLowerCase(); ' '.trim()", 0})
	two.says(t, "print("+of(8192, "a")+".toUpperCase().length, "+of(8192, "\u00c9")+".toLowerCase().length, (' ' + "+of(8190, "a")+" + ' ').trim().length)", "8192 8192 8190")
}

// units of a text that is no program's, as a literal.
func literal(l []uint16) string {
	text := "'"
	for _, u := range l {
		text += fmt.Sprintf("\\u%04x", u)
	}
	return text + "'"
}

// P101, P103: functions that go by units, held against Go's own, on texts with halves of pairs.
func TestTextsAtRandom(t *testing.T) {
	r := rand.New(rand.NewPCG(28, 1))
	w := ecmacore.New(2)
	for range 3000 {
		l := make([]uint16, r.IntN(8))
		for i := range l {
			l[i] = []uint16{'a', 'b', 0xe9, 0xd83d, 0xde00}[r.IntN(5)]
		}
		x, y := r.IntN(13)-3, r.IntN(13)-3
		n := len(l)
		place := func(x int) int { return min(max(x, 0), n) }
		fromEnd := func(x int) int {
			if x < 0 {
				x += n
			}
			return place(x)
		}
		cut := func(from, to int) string { return literal(l[from:max(from, to)]) }
		code, unit := "NaN", "''"
		if x >= 0 && x < n {
			code, unit = fmt.Sprint(l[x]), literal(l[x:x+1])
		}
		src := fmt.Sprintf("var s = %s; print(s.length, s.charCodeAt(%d), s.charAt(%d) === %s, s.slice(%d, %d) === %s, s.substring(%d, %d) === %s, s.slice(%d) === %s)", literal(l), x, x, unit,
			x, y, cut(fromEnd(x), fromEnd(y)), x, y, cut(min(place(x), place(y)), max(place(x), place(y))), x, cut(fromEnd(x), n))
		res := w.Run(src, api.Limits{})
		if want := fmt.Sprintf("%d %s true true true true", n, code); res.How != api.Ended || res.Lines[0] != want {
			t.Fatalf("%s\n got %+v\nwant %s", src, res, want)
		}
	}
}

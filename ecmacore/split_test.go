package ecmacore_test

import "testing"

// parts(a) tells each item of an Array in brackets: what is no string by what typeof says.
const parts = "function parts(a) { var s = ''; for (var i = 0; i < a.length; i++) s += '[' + (typeof a[i] == 'string' ? a[i] : typeof a[i]) + ']'; return s + a.length } "

// P104: by strings.
func TestSplitByText(t *testing.T) {
	two.says(t, parts+"print(parts('a,b,c'.split(',')), parts('abc'.split('')), parts('abc'.split('z')), parts('abc'.split('abc')), parts(',a,'.split(',')), parts(',,'.split(',')), parts('a'.split('ab')))", "[a][b][c]3 [a][b][c]3 [abc]1 [][]2 [][a][]3 [][][]3 [a]1")
	two.says(t, parts+"print(parts('aaa'.split('aa')), parts('aaaa'.split('aa')), parts('abab'.split('ba')), parts('ababa'.split('aba')), parts('a--b---c'.split('--')))", "[][a]2 [][][]3 [a][b]2 [][ba]2 [a][b][-c]3")
	two.says(t, parts+"print(parts(''.split('')), parts(''.split('a')), parts(''.split()), parts('a,b'.split()), parts('a,b'.split(undefined)), parts('aundefinedb'.split(undefined)), parts('anullb'.split(null)), parts('a1b'.split(1)), parts('a1,2b'.split([1, 2])), parts('a.b'.split('.')))", "0 []1 []1 [a,b]1 [a,b]1 [aundefinedb]1 [a][b]2 [a][b]2 [a][b]2 [a][b]2")
	two.says(t, parts+"print(parts('\\ud83d\\ude00'.split('')), 'a\\ud83d\\ude00'.split('')[2] === '\\ude00', parts('a\\ud83d\\ude00b'.split('\\ude00')) === '[a\\ud83d][b]2', parts('\\u00e9a\\u00e9'.split('a')), parts(''.split.call(12321, 2)))", "[\xed\xa0\xbd][\xed\xb8\x80]2 true true [\u00e9][\u00e9]2 [1][3][1]3")
	two.says(t, tell+"var a = 'a,b'.split(','); print(Array.isArray(a), Object.getPrototypeOf(a) === Array.prototype, Object.getOwnPropertyNames(a), tell(a, 0), tell(a, 1), tell(a, 'length'))", "true true 0,1,length a:wec b:wec 2:w")
	two.says(t, "Object.defineProperty(Array.prototype, 0, {get: print, set: print}); print('ab'.split('')[0], 'ab'.split()[0])", "a ab")
	two.takes(t, taken{"'a,b,c'.split(','); 'abc'.split(''); ''.split('a'); 'abc'.split(); ''.split('')", 0}, taken{"'a'.split([1, 2])", 2})
	two.says(t, "print("+of(8192, "a")+".split('').length, "+of(8192, "a")+".split('a').length, "+of(8192, "a")+".split("+of(4096, "a")+").length, "+of(8192, "a")+".split("+of(4095, "a")+" + 'b').length)", "8192 8193 3 1")
}

// P104: by patterns, and what their groups found.
func TestSplitByPattern(t *testing.T) {
	two.says(t, parts+"print(parts('a1b22c'.split(/\\d+/)), parts('a1b22'.split(/(\\d)+/)), parts('a1b'.split(/(\\d)|(x)/)), parts('abc'.split(/(?:)/)), parts('abc'.split(/()/)), parts('abc'.split(/z/)), parts('abc'.split(/abc/)), parts('abc'.split(/$/)), parts('abc'.split(/^/)))", "[a][b][c]3 [a][1][b][2][]5 [a][1][undefined][b]4 [a][b][c]3 [a][][b][][c]5 [abc]1 [][]2 [abc]1 [abc]1")
	two.says(t, parts+"print(parts(''.split(/a/)), parts(''.split(/a*/)), parts(''.split(/(a)?/)), parts(''.split(/$/)), parts('ab'.split(/a*?/)), parts('ab'.split(/a*/)), parts('aab'.split(/a*/)), parts('baab'.split(/a*/)), parts('aXbxc'.split(/x/i)), parts('a\\nb'.split(/^/m)), parts('ab'.split(/(?=b)/)))", "[]1 0 0 0 [a][b]2 [][b]2 [][b]2 [b][b]2 [a][b][c]3 [a\n][b]2 [a][b]2")
	two.says(t, parts+"print('A<B>bold</B>and<CODE>coded</CODE>'.split(/<(\\/)?([^<>]+)>/)); print(parts('test'.split(/(t)|(e)/)), parts('abcabc'.split(RegExp('b'))), parts('a(?:)b'.split(RegExp.prototype)), parts('abab'.split(/(a)|b/)))", "A,,B,bold,/,B,and,,CODE,coded,/,CODE,", "[][t][undefined][][undefined][e][s][t][undefined][]10 [a][ca][c]3 [a][(][?][:][)][b]6 [][a][][undefined][][a][][undefined][]9")
	// Whether it may be found elsewhere does not matter, nor lastIndex and g.
	two.says(t, parts+"var r = /b/g; r.lastIndex = 2; print(parts('abab'.split(r)), r.lastIndex); r = Object.freeze(/b/g); print(parts('abab'.split(r)), parts('a'.split(r)))", "[a][a][]3 2", "[a][a][]3 [a]1")
	two.says(t, parts+"print(parts('\\ud83d\\ude00'.split(/(?:)/)), parts('a\\ud83d\\ude00b'.split(/\\ud83d/)) === '[a][\\ude00b]2', parts('a\\u00e9b'.split(/(\\u00e9)/)))", "[\xed\xa0\xbd][\xed\xb8\x80]2 true [a][\u00e9][b]3")
	// What is no object with a pattern is a string.
	two.says(t, parts+"print(parts('a/b/c'.split('/b/')), parts('aqc'.split(Object.create(/b/, {toString: {value: function () { return 'q' }}}))))", "[a][c]2 [a][c]2")
	two.takes(t,
		taken{"'ab'.split(/b/)", 4}, taken{"'ab'.split(/(?:)/)", 3}, taken{"''.split(/a/)", 2}, taken{"''.split(/(?:)/)", 1}, taken{"'ab'.split(/z/)", 4}, taken{"'baac'.split(/a*/)", 3 + 7 + 3}, taken{"'a1b22'.split(/(\\d+)/)", 3 + 5 + 3 + 7},
		taken{"'ab'.split(/a*?/)", 1 + 1 + 1}, taken{"'abc'.split(/^/)", 6},
	)
}

// P104: the most: no more is looked for, where there are as many.
func TestSplitMost(t *testing.T) {
	two.says(t, parts+"print(parts('a,b,c'.split(',', 2)), parts('a,b,c'.split(',', 3)), parts('a,b,c'.split(',', 9)), parts('a,b,c'.split(',', 0)), parts('a,b,c'.split(',', 1)), parts('abc'.split('', 2)), parts('a'.split(undefined, 0)), parts('a'.split(undefined, 1)), parts(''.split('a', 0)), parts(''.split('a', 1)))", "[a][b]2 [a][b][c]3 [a][b][c]3 0 [a]1 [a][b]2 0 [a]1 0 []1")
	two.says(t, parts+"print(parts('a1b2c'.split(/(\\d)/, 1)), parts('a1b2c'.split(/(\\d)/, 2)), parts('a1b2c'.split(/(\\d)/, 3)), parts('a1b2c'.split(/(\\d)/, 4)), parts('a1b2c'.split(/(\\d)/, 5)), parts('a1b2c'.split(/(\\d)()/, 2)), parts('a1b2c'.split(/\\d/, 0)))", "[a]1 [a][1]2 [a][1][b]3 [a][1][b][2]4 [a][1][b][2][c]5 [a][1]2 0")
	for _, c := range [][2]string{
		{"undefined", "3"}, {"null", "0"}, {"NaN", "0"}, {"-1", "3"}, {"'2'", "2"}, {"1.9", "1"}, {"4294967296", "0"}, {"4294967297", "1"}, {"4294967295", "3"}, {"-4294967294", "2"}, {"Infinity", "0"}, {"true", "1"}, {"[2]", "2"}, {"{}", "0"},
	} {
		two.gives(t, [2]string{"'a,b,c'.split(',', " + c[0] + ").length", c[1]}, [2]string{"'a,b,c'.split(/,/, " + c[0] + ").length", c[1]})
	}
	two.takes(t,
		taken{"'a1b2'.split(/\\d/, 1)", 4}, taken{"'a1b2'.split(/\\d/, 2)", 8}, taken{"'a1b2'.split(/\\d/, 3)", 8}, taken{"'a1b2'.split(/\\d/, 0)", 0}, taken{"'a1b2'.split(/(\\d)/, 1)", 4}, taken{"'a1b2'.split(/(\\d)/, 2)", 4}, taken{"'a1b2'.split(/(\\d)/, 3)", 8}, taken{"''.split(/a/, 0)", 0}, taken{"''.split(/a/, 1)", 2},
	)
}

// P104: the order of things: the most is asked ahead of the first argument.
func TestSplitOrder(t *testing.T) {
	two.says(t, asked+"print(''.split.call(v('this', 'abc'), v('first', 'b'), v('second', 5))); print('abc'.split(v('first', 'b'), v('second', 0)).length, 'abc'.split(/b/, v('second', 1)), 'abc'.split(undefined, v('second', 1)))",
		"this string", "second number", "first string", "a,c", "second number", "first string", "second number", "second number", "0 a abc")
	two.fails(t, typeError, odd+"'a'.split({toString: function () { print('no') }}, bad)", odd+"'a'.split(bad, 0)", odd+"'a'.split(bad)", odd+"'a'.split(/a/, bad)", odd+"'a'.split(undefined, bad)")
	two.ends(t, end{src: odd + "'a'.split(bad, [1, 2])", text: typeError, steps: 2})
}

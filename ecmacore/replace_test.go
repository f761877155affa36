package ecmacore_test

import (
	"strings"
	"testing"
)

// P103: what is looked for.
func TestReplace(t *testing.T) {
	two.gives(t,
		[2]string{"'aba'.replace('a', 'x'), 'aba'.replace(/a/, 'x'), 'aba'.replace(/a/g, 'x'), 'aba'.replace('z', 'x'), 'aba'.replace(/z/g, 'x'), 'aba'.replace('', 'x'), ''.replace('', 'x'), ''.replace(/(?:)/g, 'x'), 'a.b'.replace('.', 'x'), '(('.replace('(', '')", "xba xba xbx aba aba xaba x x axb ("},
		[2]string{"'abc'.replace(/(?:)/g, '-'), 'baac'.replace(/a*/g, '-'), 'aab'.replace(/a*?/g, '-'), 'abc'.replace(/$/g, '-'), 'a\\nb'.replace(/^/gm, '-'), 'aaa'.replace(/aa/g, 'b'), 'abc'.replace(/b|$/g, '-'), 'aXbx'.replace(/x/gi, '')", "-a-b-c- -b--c- -a-a-b- abc- -a\n-b ba a-c- ab"},
		[2]string{"'aundefined'.replace(), 'abc'.replace('b'), 'anull'.replace(null, 1), 'a1'.replace(1, 2), 'a1,2'.replace([1, 2], 'x'), 'abc'.replace('b', null), 'abc'.replace('b', [1, 2]), 'abc'.replace('b', {}), 'abc'.replace(/b/, /c/), 'a/b/'.replace('/b/', 'x')", "aundefined aundefinedc a1 a2 ax anullc a1,2c a[object Object]c a/c/c ax"},
		[2]string{"''.replace.call(121, 1, 3), ''.replace.call(121, /1/g, 3), ''.replace.call([1, 2], ',', '')", "321 323 12"},
		[2]string{"'\\ud83d\\ude00'.replace('\\ude00', 'x') === '\\ud83dx', '\\ud83d\\ude00'.replace(/\\ud83d/, '') === '\\ude00', '\\ud83dx\\ude00'.replace('x', '') === '\\ud83d\\ude00', '\\ud83d\\ude00'.replace(/(?:)/g, '-').length, 'a\\u00e9'.replace('\\u00e9', 'b')", "true true true 5 ab"},
	)
	two.says(t, "var s = 'aa'; print(s.replace(/a/g, 'b'), s, typeof ''.replace.call(5, 5, 6))", "bb aa string")
}

// P103: lastIndex: 0 is put, if there is a g; it is never asked, and what is found does not turn it.
func TestReplaceLastIndex(t *testing.T) {
	two.says(t, "var r = /a/g; r.lastIndex = 2; print('aaa'.replace(r, 'b'), r.lastIndex); r.lastIndex = 2; print('zzz'.replace(r, 'b'), r.lastIndex); r = /a/; r.lastIndex = 2; print('aaa'.replace(r, 'b'), 'z'.replace(r, 'b'), r.lastIndex); r.lastIndex = {valueOf: print}; print('a'.replace(r, 'b'), typeof r.lastIndex)", "bbb 0", "zzz 0", "baa z 2", "b object")
	two.says(t, "var r = /a/g; print('aaa'.replace(r, function () { print(r.lastIndex); r.lastIndex = 2; return 'b' }), r.lastIndex)", "0", "2", "2", "bbb 2")
	two.says(t, "var r = Object.freeze(/a/); print('ba'.replace(r, 'c'), 'b'.replace(r, 'c'))", "bc b")
	two.fails(t, typeError, "'b'.replace(Object.freeze(/a/g), {toString: function () { print('no') }})")
}

// P103: in which order things are done, and how many steps they take.
func TestReplaceOrder(t *testing.T) {
	two.says(t, asked+"print(''.replace.call(v('this', 'abc'), v('first', 'b'), v('second', 'x'), v('third', 1))); print('abc'.replace('z', v('second', 'x')), 'abc'.replace(/b/g, v('second', 'y')), 'bbb'.replace(/b/g, v('once', 'y')))",
		"this string", "first string", "second string", "axc", "second string", "second string", "once string", "abc ayc yyy")
	two.fails(t, typeError, odd+"'a'.replace(bad, {toString: function () { print('no') }})", odd+"'a'.replace('a', bad)", odd+"'a'.replace('z', bad)", odd+"'a'.replace(bad, function () { print('no') })")
	// The places are all found ahead of what comes there.
	two.ends(t,
		end{src: odd + "'ab'.replace(/b/g, bad)", text: typeError, steps: 4 + 2}, end{src: odd + "'ab'.replace(/b/, bad)", text: typeError, steps: 4},
		end{src: "'aaa'.replace(/a/g, function () { throw 1 })", text: "number 1", steps: 2*4 + 1},
		end{src: "'ab'.replace('b', function () { return {valueOf: 0, toString: 0} })", text: typeError, steps: 1},
	)
	two.takes(t,
		taken{"'ab'.replace('b', 'x'); 'ab'.replace('z', function () { })", 0}, taken{"'ab'.replace(/b/, '$&')", 4}, taken{"'ab'.replace(/b/g, '$&')", 4 + 2}, taken{"'ab'.replace(/z/, '')", 6}, taken{"'ab'.replace(/(?:)/g, '')", 3}, taken{"''.replace(/(?:)/g, '')", 1}, taken{"''.replace(/a/g, '')", 2},
		taken{"'baac'.replace(/a*/g, '-')", 3 + 7 + 3 + 3}, taken{"'ab'.replace(/b/, function () { return '' })", 5}, taken{"'aa'.replace(/a/g, function () { return [1, 2] })", 2*2 + 2 + 2*(1+2)}, taken{"'a'.replace([1], [2, 3])", 3},
	)
	two.says(t, "var s = ''; 'aba'.replace(/a/g, function (m, at) { s += at; 'xx'.replace(/x/g, function (m, at) { s += at }) }); print(s)", "001201")
}

// P103: functions.
func TestReplaceByFunction(t *testing.T) {
	f := "function f() { 'x'; print(Array.prototype.join.call(arguments, '|'), arguments.length, this); return '<' + arguments[0] + '>' } "
	two.says(t, f+"print('abcabc'.replace(/b(c)?(z)?/g, f))", "bc|c||1|abcabc 5 undefined", "bc|c||4|abcabc 5 undefined", "a<bc>a<bc>")
	two.says(t, f+"print('abc'.replace('b', f), 'abc'.replace(/c/, f), ''.replace('', f), 'abc'.replace('z', f), ''.replace.call(121, 2, f))", "b|1|abc 3 undefined", "c|2|abc 3 undefined", "|0| 3 undefined", "2|1|121 3 undefined", "a<b>c ab<c> <> abc 1<2>1")
	two.says(t, "'xay'.replace(/(q)?a(y)?/, function (m, q, y, at, s) { print(typeof m, typeof q, typeof y, typeof at, typeof s) }); ''.replace.call(new String('a'), 'a', function (m, at, s) { print(typeof s, this) })", "string undefined string number string", "string undefined")
	two.gives(t,
		[2]string{"'abc'.replace('b', function () { }), 'abc'.replace('b', function () { return null }), 'abc'.replace('b', function () { return 1.50 }), 'abc'.replace('b', function () { return [1, [2]] }), 'abc'.replace('b', function () { return '$&$1$$' }), 'aa'.replace(/a/g, String), 'ab'.replace(/./g, Array)", "aundefinedc anullc a1.5c a1,2c a$&$1$$c aa a,0,abb,1,ab"},
		[2]string{"'abc'.replace(/b/, ''.concat.bind('<')), 'abc'.replace('b', Object), 'a1b2'.replace(/\\d/g, function (d, at) { return d * 2 + at })", "a<b1abcc abc a3b7"},
	)
	two.says(t, asked+"print('ab'.replace(/./g, function (m) { return v(m, m + m) }))", "a string", "b string", "aabb")
}

// P103: signs in a text.
func TestReplaceSigns(t *testing.T) {
	sign := func(by string) string { return "'xabcy'.replace(/a(b)(z)?(c)/, \"<" + by + ">\")" }
	for by, want := range map[string]string{
		"$$": "$", "$&": "abc", "$`": "x", "$'": "y", "$1": "b", "$2": "", "$3": "c", "$4": "$4", "$0": "$0", "$00": "$00", "$01": "b", "$02": "", "$03": "c", "$04": "$04", "$10": "b0", "$11": "b1", "$31": "c1", "$40": "$40", "$99": "$99", "$": "$", "$a": "$a", "a$": "a$",
		"$$1": "$1", "$$$1": "$b", "$$$$": "$$", "$&$&": "abcabc", "$1$3$1": "bcb", "$ 1": "$ 1", "$-1": "$-1", "\\u0024&": "abc", "": "", "$001": "$001", "$010": "b0", "$1a": "ba", "$\\uff11": "$\uff11", "$`$'": "xy", "$\\n": "$\n", "$$`": "$`", "a$&b$'c": "aabcbyc",
	} {
		two.gives(t, [2]string{sign(by), "x<" + want + ">y"})
	}
	var groups strings.Builder
	for i := range 12 {
		groups.WriteString("(" + string(rune('a'+i)) + ")")
	}
	for _, c := range [][2]string{{"$10", "j"}, {"$11", "k"}, {"$12", "l"}, {"$13", "a3"}, {"$1", "a"}, {"$01", "a"}, {"$010", "a0"}, {"$9", "i"}, {"$09", "i"}, {"$20", "b0"}, {"$121", "l1"}, {"$00", "$00"}, {"$:", "$:"}, {"$0:", "$0:"}, {"$1:", "a:"}, {"$1/", "a/"}} {
		two.gives(t, [2]string{"'abcdefghijkl'.replace(/" + groups.String() + "/, '" + c[0] + "')", c[1]})
	}
	// Where a string is looked for there are no groups; what stands ahead is all of it, also what was replaced.
	two.gives(t,
		[2]string{"'abc'.replace('b', '[$&$1$`$\\'$$$01]'), 'abcb'.replace(/b/g, '[$`|$\\']'), 'aaa'.replace(/a/g, '$`'), 'abc'.replace(/(?:)/g, '$\\''), 'ab'.replace(/(x)?/g, '<$1>')", "a[b$1ac$$01]c a[a|cb]c[abc|] aaa abcabcbcc <>a<>b<>"},
		[2]string{"'\\ud83d\\ude00'.replace(/\\ude00/, '$`$`') === '\\ud83d\\ud83d\\ud83d', '\\ud83dx'.replace('x', '$`\\ude00').length, 'x\\ude00'.replace('x', '\\ud83d') === '\\ud83d\\ude00'", "true 3 true"},
	)
}

// P103: P72's bound is asked behind each place, of all that was put together so far.
func TestReplaceBound(t *testing.T) {
	s := "var n = 0, s = " + of(4096, "a") + "; "
	two.says(t, s+"print((s + 'b').replace('b', s).length, (s + s).replace(/a/g, 'b').length, (s + s).replace(/$/, '').length, s.replace(/a/g, '$&$&').length)", "8192 8192 8192 8192")
	two.ends(t,
		end{src: s + "(s + 'b').replace('b', s + 'c')", text: rangeError}, end{src: s + "(s + s).replace('a', 'bc')", text: rangeError}, end{src: s + "(s + s).replace(/$/, 'c')", text: rangeError, steps: 2*8192 + 2},
		end{src: s + "s.replace('a', \"$'$'$'\")", text: rangeError}, end{src: s + "'bbb'.replace('bbb', '$&' + s + s.slice(2))", text: rangeError},
	)
	two.says(t, s+"print('bb'.replace('bb', '$&' + s + s.slice(2)).length, s.replace('a', \"$'\").length, s.replace(/a$/, '$`').length)", "8192 8190 8190")
	// The function is called for a place that lies behind too much, as what stands ahead of it is not asked.
	two.ends(t,
		end{src: s + "(s + s.slice(2) + 'xy').replace(/x|y/g, function (m, at) { print(at); return m == 'x' ? 'zz' : '' })", text: "", steps: 8190*5 + 3 + 5 + 5 + 2, lines: []string{"8190", "8191"}},
		end{src: s + "('x' + s + s.slice(1)).replace(/x|a$/g, function (m, at) { print(at); return 'zz' })", text: rangeError, steps: 3 + 8191*6 + 5 + 2, lines: []string{"0", "8191"}},
		end{src: s + "('xx' + s + s.slice(2)).replace(/x/g, function (m, at) { print(at); return s + 'b' })", text: rangeError, steps: 2 + 2 + 2*8191 + 2, lines: []string{"0", "1"}},
		end{src: s + "('xxx' + s).replace(/x/g, function (m, at) { print(at); return s + 'b' })", text: rangeError, steps: 3*2 + 2*4097 + 2, lines: []string{"0", "1"}},
		end{src: s + "'xx'.replace(/x/g, s + s)", text: rangeError, steps: 6},
	)
}

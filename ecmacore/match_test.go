package ecmacore_test

import "testing"

// P102: match without g is exec.
func TestMatch(t *testing.T) {
	two.says(t, "var m = 'xabab'.match(/a(b)(c)?/); print(m, m.length, m.index, m.input, m[2], Object.getOwnPropertyNames(m))", "ab,b, 3 1 xabab undefined 0,1,2,length,index,input")
	two.gives(t,
		[2]string{"'abab'.match(/z/), 'abab'.match('b').index, 'abab'.match('z'), 'a.b'.match('.')[0], 'a+'.match('\\\\+').index, 'abc'.match().index, 'abc'.match(undefined)[0] === '', 'xnull'.match(null).index, 'a12'.match(1).index, ''.match('').length, '1,2'.match([1, 2])[0]", "null 1 null a 1 0 true 1 1 1 1,2"},
		[2]string{"''.match.call(121, 2).index, ''.match.call(121, 2).input, typeof ''.match.call(121, 2).input, ''.match.call([1, 2], /,/).index", "1 121 string 1"},
	)
	two.says(t, "var r = /b/; r.lastIndex = 3; print('ab'.match(r).index, r.lastIndex, 'a'.match(r), r.lastIndex)", "1 3 null 0")
	two.says(t, asked+"print(''.match.call(v('this', 'ab'), v('first', 'b')).index); try { ''.match.call(v('this', ''), v('first', '(')) } catch (e) { print(e) }", "this string", "first string", "1", "this string", "first string", "SyntaxError")
	two.fails(t, syntaxError, "'a'.match('(')", "'a'.match('*')", "'a'.search('[')", "''.match('a**')")
	two.fails(t, typeError, odd+"'a'.match(bad)", odd+"'a'.search(bad)", odd+"var r = /a/; r.lastIndex = bad; 'a'.match(r)")
	two.takes(t, taken{"'ab'.match(/b/)", 4}, taken{"'ab'.match('b')", 4}, taken{"'ab'.match('z')", 6}, taken{"'ab'.match()", 1}, taken{"'b'.match([1])", 1 + 4})
}

// P102: match with g: all that is found.
func TestMatchAll(t *testing.T) {
	two.says(t, tell+"var m = 'abcab'.match(/a(b)/g); print(m, m.length, Object.getOwnPropertyNames(m), tell(m, 0), Array.isArray(m)); print('abc'.match(/z/g), 'abc'.match(/./g), ''.match(/a/g), ''.match(/(?:)/g).length)", "ab,ab 2 0,1,length ab:wec true", "null a,b,c null 1")
	two.gives(t,
		[2]string{"'baac'.match(/a*/g).join('|'), 'aab'.match(/a*?/g).length, 'abc'.match(/(?:)/g).length, 'aXbX'.match(/x/gi), 'a\\nb'.match(/^./gm), 'a\\nb'.match(/^./g), '\\ud83d\\ude00'.match(/./g).length, '\\ud83d\\ude00'.match(/(?:)/g).length", "|aa|| 4 4 X,X a,b a 2 3"},
		// What lastIndex was is asked, not whether something was passed.
		[2]string{"'abc'.match(/$/g).length, 'ab'.match(/b|$/g).join('|'), 'abc'.match(/b*$/g).length, '  a'.match(/\\b/g).length", "2 b| 2 3"},
	)
	two.says(t, "var r = /a/g; r.lastIndex = 2; print('aaa'.match(r), r.lastIndex); r.lastIndex = 'x'; print('b'.match(r), r.lastIndex); r = /$/g; r.lastIndex = {valueOf: print}; print('ab'.match(r).length, r.lastIndex)", "a,a,a 0", "null 0", "2 0")
	two.says(t, "var r = /a/gm; print(''.match.call(1213, /1/g), 'a'.match(r) === 'a'.match(r))", "1,1 false")
	// lastIndex is put ahead of the first, which must be allowed; whether there is a g is what counts.
	two.fails(t, typeError, "'b'.match(Object.freeze(/a/g))", "'a'.match(Object.defineProperty(/a/g, 'lastIndex', {writable: false}))")
	two.says(t, "Object.defineProperty(Array.prototype, 0, {get: print, set: print}); var m = 'ab'.match(/./g); print(m[0], m[1])", "a b")
	two.takes(t,
		taken{"'ab'.match(/b/g)", 4 + 2}, taken{"'ab'.match(/a/g)", 2 + 4}, taken{"'ab'.match(/z/g)", 6}, taken{"''.match(/(?:)/g)", 1}, taken{"'ab'.match(/(?:)/g)", 3}, taken{"'baac'.match(/a*/g)", 3 + 7 + 3 + 3}, taken{"'ab'.match(/$/g)", 6 + 2}, taken{"''.match(/a/g)", 2},
	)
	// It is no call of the exec that programs see.
	two.says(t, "RegExp.prototype.exec = null; print('aba'.match(/a/g), 'aba'.match(/b/).index, /a/.test('a')); print((function f(n) { return n ? f(n - 1) : 'aa'.match(/a/g).length })(148))", "a,a 1 true", "2")
}

// P102: search asks nothing of lastIndex.
func TestSearch(t *testing.T) {
	two.gives(t,
		[2]string{"'xay'.search(/a/), 'xay'.search(/z/), 'xay'.search('y'), 'xay'.search('.'), 'xay'.search(), 'xay'.search(undefined), 'xnull'.search(null), ''.search(''), ''.search(/a/), 'ab'.search(/$/), 'aB'.search(/b/i), '\\ud83d\\ude00'.search(/\\ude00/), ''.search.call(121, 2), typeof 'a'.search('a')", "1 -1 2 0 0 0 1 0 -1 2 1 1 1 number"},
	)
	two.says(t, "var r = /a/g; r.lastIndex = 2; print('aba'.search(r), r.lastIndex, 'b'.search(r), r.lastIndex); r = /a/; r.lastIndex = {valueOf: print}; print('ba'.search(r), 'b'.search(r), typeof r.lastIndex); print('a'.search(Object.freeze(/a/g)), 'b'.search(Object.freeze(/a/g)))", "0 2 -1 2", "1 -1 object", "0 -1")
	two.takes(t, taken{"'ab'.search(/b/)", 4}, taken{"'ab'.search('b')", 4}, taken{"'ab'.search(/z/g)", 6}, taken{"''.search('')", 1})
	two.says(t, asked+"print(''.search.call(v('this', 'ab'), v('first', 'b')))", "this string", "first string", "1")
}

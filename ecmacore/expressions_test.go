package ecmacore_test

import "testing"

// P77: names.
func TestNames(t *testing.T) {
	says(t, "var a = 1; print(a, this.a); this.b = 2; print(b); b = 3; print(this.b); a = b; print(this.a)", "1 1", "2", "3", "3")
	says(t, "print(typeof toString, toString === this.toString, toString === {}.toString); toString = 1; print(toString, 'toString' in {}, {})", "function true true", "1 true [object Object]")
	fails(t, referenceError, "zz", "zz = 1", "zz += 1", "zz++", "--zz", "zz.x", "zz.x = 1", "zz()", "new zz", "typeof zz.x", "[zz]", "(zz)")
	// It is asked when it is put, behind the right side.
	ends(t,
		end{src: odd + "zz = two + ''", text: referenceError, steps: 2},
		end{src: odd + "zz += two + ''", text: referenceError, steps: 0},
		end{src: odd + "zz(two + '')", text: referenceError, steps: 0},
		end{src: "print(zz = (this.zz = 1, 2), zz)", lines: []string{"2 2"}},
		end{src: "this.zz = 1; zz = delete this.zz", text: referenceError},
		end{src: "this.zz = 1; zz += delete this.zz", text: referenceError},
		end{src: "this.zz = 1; print(zz + delete this.zz); zz", text: referenceError, lines: []string{"2"}},
	)
}

// P77: a place is done ahead of what is assigned, called or deleted; a key is taken for a string once.
func TestPlaces(t *testing.T) {
	says(t, "var o = {}; o[[1, 2]] = 1; o[null] = 2; o[undefined] = 3; o[true] = 4; o[{}] = 5; o[-0] = 6; o[1e21] = 7; o['1.50'] = 8; print(o['1,2'], o['null'], o['undefined'], o['true'], o['[object Object]'], o['0'], o['1e+21'], o[1.5])",
		"1 2 3 4 5 6 7 undefined")
	ends(t,
		end{src: odd + "null.x = two + ''", text: typeError, steps: 0},
		end{src: odd + "null[two] = two + ''", text: typeError, steps: 0},
		end{src: odd + "null[two + '']", text: typeError, steps: 2},
		end{src: odd + "undefined[two]", text: typeError, steps: 0},
		end{src: odd + "null[bad]", text: typeError},
		end{src: odd + "o[two] = bad + ''", text: typeError, steps: 2},
		end{src: odd + "o[bad] = two + ''", text: typeError, steps: 0},
		end{src: odd + "o[two] += 1; print(o['1,2'])", steps: 2, lines: []string{"NaN"}},
		end{src: odd + "o[two]++", steps: 2},
		end{src: odd + "--o[two]", steps: 2},
		end{src: odd + "o[two]", steps: 2},
		end{src: odd + "delete o[two]", steps: 2},
		end{src: odd + "o.x[two]", text: typeError, steps: 0},
		end{src: odd + "delete null[two]", text: typeError, steps: 0},
		end{src: odd + "delete null.x", text: typeError, steps: 0},
		end{src: odd + "(print('o'), null)[print('k')]", text: typeError, lines: []string{"o", "k"}},
		end{src: odd + "(print('o'), null).x = print('v')", text: typeError, lines: []string{"o"}},
		end{src: odd + "(print('o'), o)[print('k')] = print('v')", lines: []string{"o", "k", "v"}},
		end{src: odd + "(print('o'), o)[print('k')](print('v'))", text: typeError, lines: []string{"o", "k", "v"}},
	)
}

// P78: what is written out.
func TestLiterals(t *testing.T) {
	gives(t,
		[2]string{"this === this, typeof this, this", "true object [object Object]"},
		[2]string{"0x10, 1.5, .5, 1e3, 'a\\nb' === 'a\\x0ab', null, true, false", "16 1.5 0.5 1000 true null true false"},
		[2]string{"[], [1], [1, 2], [1, , 2], [,], [,,], [1, ,]", " 1 1,2 1,,2  , 1,"},
		[2]string{"[].length, [1].length, [1, ,].length, [,].length, [, ,].length, [1,].length, 1 in [1, , 2], 2 in [1, , 2], 0 in [,]", "0 1 2 1 2 1 false true false"},
		[2]string{"[] === [], {} === {}, /a/ === /a/", "false false false"},
		[2]string{"({a: 1}).a, ({'a b': 2})['a b'], ({1: 3})[1], ({0x10: 4})[16], ({if: 5}).if, ({a: {b: 6}}).a.b, ({__proto__: 7}).__proto__, 'x' in {x: undefined}", "1 2 3 4 5 6 7 true"},
	)
	// From the left, and each time anew.
	says(t, "var a = [print(1), print(2), , print(3)], o = {b: print('b'), a: print('a'), 1: print('1')}; print(a.length, 'b' in o)", "1", "2", "3", "b", "a", "1", "4 true")
	says(t, "for (var l = [], i = 0; i < 2; i++) l[i] = [{}, [], /a/]; print(l[0][0] === l[1][0], l[0][1] === l[1][1], l[0][2] === l[1][2])", "false false false")
	// Their properties have all flags: they can be changed and deleted.
	says(t, "var o = {a: 1, 1: 2}, l = [1, 2]; o.a = 3; o[1] = 4; l[1] = 5; print(o.a, o[1], '' + l, delete o.a, delete o[1], delete l[0], o.a, l)", "3 4 1,5 true true true undefined ,5")
	ends(t, end{src: odd + "[two + '', bad + '', two + '']", text: typeError, steps: 2}, end{src: odd + "({a: two + '', b: bad + '', c: two + ''})", text: typeError, steps: 2})
}

// P78, P106: the object of a pattern.
func TestPatterns(t *testing.T) {
	gives(t,
		[2]string{"/a(b)/.source, /a/gi.source, /[/]\\/\\u0061/m.source", "a(b) a [/]\\/\\u0061"},
		[2]string{"/a/.global, /a/.ignoreCase, /a/.multiline, /a/g.global, /a/i.ignoreCase, /a/m.multiline, /a/mig.global, /a/mi.global", "false false false true true true true false"},
		[2]string{"/a/.lastIndex, typeof /a/, /a/, 'lastIndex' in /a/, 'exec' in /a/", "0 object [object RegExp] true false"},
	)
	says(t, "var r = /a/g; r.lastIndex = 5; print(r.lastIndex, /a/g.lastIndex)", "5 0")
	fails(t, typeError, "/a/.source = 1", "/a/.global = 1", "/a/.ignoreCase = 1", "/a/.multiline = 1", "delete /a/.source", "delete /a/.multiline", "delete /a/.lastIndex")
}

// P79: calls and new.
func TestCalls(t *testing.T) {
	// Object's toString tells on what it is called.
	says(t, "var o = {t: {}.toString}, a = [], k = 't'; a.t = o.t; print(o.t(), a.t(), a['t'](), a[k](), (a.t)(), (0, a.t)(), toString(), this.toString())",
		"[object Object] [object Array] [object Array] [object Array] [object Array] [object Undefined] [object Undefined] [object Object]")
	says(t, "print(print(), print(1, 'a'), (print)(2))", "", "1 a", "2", "undefined undefined undefined")
	says(t, "print('abc'.toString(), 'abc'['valueOf'](), (5).valueOf() + 1, true.toString() + 1)", "abc abc 6 true1")
	says(t, "print(new Error('a'), new Error, new RangeError(undefined), typeof new TypeError(), new Error === new Error)", "Error: a Error RangeError object false")
	fails(t, typeError, "5()", "'a'()", "undefined()", "null()", "({})()", "[]()", "({}).x()", "/a/()", "null.x()", "new 5", "new undefined", "new {}", "new print", "new print(1)", "new [].join", "new ({}.toString)()", "valueOf()")
	ends(t,
		end{src: odd + "5(two + '')", text: typeError, steps: 2},
		end{src: odd + "o.x(two + '')", text: typeError, steps: 2},
		end{src: odd + "null.x(two + '')", text: typeError, steps: 0},
		end{src: odd + "o[bad](two + '')", text: typeError, steps: 0},
		end{src: odd + "new 5(two + '')", text: typeError, steps: 2},
		end{src: odd + "new print(two + '')", text: typeError, steps: 2},
		end{src: odd + "o.f = print; o.f(two, bad, two)", text: typeError, steps: 2},
		end{src: odd + "print(two + '', bad + '', two + '')", text: typeError, steps: 2},
		end{src: "print(print('a'), print('b'))", lines: []string{"a", "b", "undefined undefined"}},
		end{src: "new (print('f'), 5)(print('a'))", text: typeError, lines: []string{"f", "a"}},
	)
}

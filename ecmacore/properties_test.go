package ecmacore_test

import "testing"

// P74: Get, and where it looks.
func TestGet(t *testing.T) {
	gives(t,
		[2]string{"'abc'.length, 'abc'['length'], 'abc'[0], 'abc'['2'], 'abc'[3], 'abc'['01'], 'abc'[-1], 'abc'[0.5], 'abc'.x", "3 3 a c undefined undefined undefined undefined undefined"},
		[2]string{"(5).x, true.x, (5).length, ({}).x, [].x, [1][1], print.x, ''[0]", "undefined undefined undefined undefined undefined undefined undefined undefined"},
		[2]string{"'a'.toString === 'b'.toString, (5).valueOf === (6).valueOf, true.toString === false.toString, [].join === [1].join", "true true true true"},
		[2]string{"({}).toString === Error.prototype.valueOf, ({}).valueOf === Error.valueOf, 'a'.valueOf === {}.valueOf, Error.toString === print.toString", "false true false true"},
		[2]string{"new RangeError().name, new RangeError().toString === Error.prototype.toString, [1, 2].length, [, 1].length, [, 1][0], 'length' in []", "RangeError true 2 2 undefined true"},
		[2]string{"({toString: 7}).toString, ({'': 1})[''], [1, 2]['1'], [1, 2]['01'], [5][-0], [5]['-0']", "7 1 2 undefined 5 undefined"},
	)
	fails(t, typeError, "undefined.x", "null.x", "undefined[0]", "null['length']", "var u; u.x", "({}).x.y")
}

// P75: Put.
func TestPut(t *testing.T) {
	says(t, "var o = {x: 1}; o.x = 2; o.y = 3; o['z'] = o[1] = 4; print(o.x, o.y, o.z, o[1], o['1'], o.x = 5, o.x)", "2 3 4 4 4 5 5")
	says(t, "var e = new Error; e.message = 'm'; print(e, new Error().message === '', Error.prototype.message === ''); delete e.message; print(e)", "Error: m true true", "Error")
	says(t, "var o = {}; o.toString = 1; print(o.toString, typeof {}.toString, delete o.toString, typeof o.toString)", "1 function true function")
	says(t, "var r = /a/; r.lastIndex = 'x'; r.more = 1; print(r.lastIndex, r.more)", "x 1")
	says(t, "print.x = 1; print(print.x); var a = [1]; a.x = 2; a['2'] = 3; a[1.5] = 4; print(a.x, a.length, a, a[1.5])", "1", "2 3 1,,3 4")
	fails(t, typeError,
		"undefined.x = 1", "null.x = 1", "null[0] = 1",
		"NaN = 1", "this.undefined = 1", "Infinity = Infinity", "undefined = undefined", "print.length = 1", "Error.prototype = 1", "/a/.source = 'a'", "/a/.global = false",
		"'abc'.x = 1", "'abc'[0] = 'a'", "'abc'[5] = 'a'", "'abc'.length = 3", "(5).x = 1", "true.x = 1", "'a'.toString = 1", "(5).toString = 1", "true.valueOf = 1")
	// What is put keeps its flags: a variable stays one that cannot be deleted.
	fails(t, typeError, "var x; x = 1; this.x = 2; delete this.x")
	says(t, "this.x = 1; x = 2; print(delete this.x, typeof x)", "true undefined")
}

// P75: behind an own property that is not writable, and one that is found behind.
func TestPutBehind(t *testing.T) {
	says(t, "var e = new TypeError; e.name = 'n'; print(e.name, TypeError.prototype.name, new TypeError().name)", "n TypeError TypeError")
	says(t, "Error.prototype.x = 1; var e = new TypeError; print(e.x); e.x = 2; print(e.x, Error.prototype.x, TypeError.prototype.x)", "1", "2 1 1")
}

// P76: the length of an Array.
func TestLength(t *testing.T) {
	says(t, "var a = [1, 2, 3]; a.length = 1; print(a, a.length, a[1]); a.length = 3; print(a, 1 in a)", "1 1 undefined", "1,, false")
	says(t, "var a = [1, 2, 3]; a.length = '2'; print(a); a.length = true; print(a); a.length = null; print(a.length); a.length = ''; print(a.length); a.length = -0; print(1 / a.length)", "1,2", "1", "0", "0", "Infinity")
	says(t, "var a = []; a.length = 4294967295; print(a.length); a[4294967294] = 1; print(a.length); a[4294967295] = 1; print(a.length, a[4294967295]); a.length = 0; print(a[4294967294], a[4294967295])",
		"4294967295", "4294967295", "4294967295 1", "undefined 1")
	says(t, "var a = []; a.length += 2; a.length++; print(a.length); print(a.length -= 3, a.length)", "3", "0 0")
	says(t, "var a = []; a.length = 1e3; a[2] = 1; print(a.length); a['length'] = 3; print(a)", "1000", ",,1")
	fails(t, rangeError, "[].length = -1", "[].length = 1.5", "[].length = 4294967296", "[].length = NaN", "[].length = undefined", "[].length = 'x'", "[].length = {}", "[].length = Infinity", "[1].length -= 2")
	// It is taken for a number twice.
	ends(t,
		end{src: "var a = []; a.length = [3]; print(a.length)", steps: 2, lines: []string{"3"}},
		end{src: "[].length = [[1, 2]]", text: rangeError, steps: 6},
		end{src: "[].length = {valueOf: print}", text: rangeError, lines: []string{"", ""}},
		end{src: "[].length = {valueOf: 0, toString: 0}", text: typeError},
	)
	// Of what is no Array it is like any other.
	says(t, "var o = {length: 1}; o.length = -1; print(o.length); o.length = 'x'; print(o.length)", "-1", "x")
}

package ecmacore_test

import (
	"strings"
	"testing"
)

// P84: which keys, in which order.
func TestForInKeys(t *testing.T) {
	says(t, "for (var k in {b: 1, 2: 1, a: 1, 1: 1, '01': 1, '-1': 1, 4294967295: 1, 4294967294: 1}) print(k)", "1", "2", "4294967294", "b", "a", "01", "-1", "4294967295")
	says(t, "for (var k in [7, , 8]) print(k, typeof k); for (k in []) print(k); var a = [1]; a.x = 1; a[5] = 1; a['1'] = 1; for (k in a) print(k)", "0 string", "2 string", "0", "1", "5", "x")
	says(t, "for (var k in 'ab') print(k); for (k in '') print(k); for (k in 5) print(k); for (k in true) print(k); for (k in '\\ud83d\\ude00') print(k)", "0", "1", "0", "1")
	says(t, "for (var k in null) print(k); for (k in undefined) print(k); for (k in {}) print(k); for (k in print) print(k); for (k in /a/) print(k); for (k in new Error('m')) print(k); print(k)", "undefined")
	says(t, "var o = {get a() { print('no') }, set b(v) {}, c: undefined}; for (var k in o) print(k)", "a", "b", "c")
	// What stands behind comes behind, but for keys that were met, enumerable or not.
	says(t, "function P() { this.x = 1; this.z = 3 } P.prototype.y = 2; P.prototype.x = 9; P.prototype[0] = 1; for (var k in new P) print(k)", "x", "z", "0", "y")
	says(t, "function A() {} A.prototype = {a: 1, b: 1}; function B() {} B.prototype = new A; B.prototype.c = 1; B.prototype.a = 1; var o = new B; o.d = 1; o.b = 1; for (var k in o) print(k)", "d", "b", "c", "a")
	says(t, "Error.prototype.message2 = 1; function f() {} f.prototype = new Error('m'); f.prototype.message3 = 1; f.prototype.constructor = f; for (var k in new f) print(k)", "message3", "constructor", "message2")
	says(t, "function f() {} f.prototype = {length: 1, 0: 2, x: 3}; var a = new f; a[0] = 1; for (var k in a) print(k); function g() {} g.prototype.constructor = 5; for (k in new g) print(k)", "0", "length", "x")
	says(t, "function f() {} f.prototype = Error; Error.prototype2 = 1; Error.length2 = 2; for (var k in new f) print(k)", "prototype2", "length2")
	// Variables are the global object's.
	says(t, "var v1, v2; this.v3 = 1; function v0() {} for (var k in this) print(k)", "v0", "v1", "v2", "k", "v3")
}

// P84: all are gathered first; those that are gone when their turn comes are left out.
func TestForInChanges(t *testing.T) {
	says(t, "var o = {a: 1, b: 2, c: 3}; for (var k in o) { print(k); delete o.b; o.d = 4 }", "a", "c")
	says(t, "var o = {a: 1, b: 2, c: 3}; for (var k in o) { print(k); delete o.b; o.b = 5; delete o.a }", "a", "b", "c")
	says(t, "function P() { this.a = 1; this.b = 2 } P.prototype.b = 3; P.prototype.c = 4; var p = new P; for (var k in p) { print(k, p[k]); delete p.b; delete P.prototype.c }", "a 1", "b 3")
	says(t, "var a = [1, 2, 3]; for (var k in a) { print(k); a.length = 2; a[5] = 1 }", "0", "1")
	says(t, "var o = {a: 1, b: 2}; for (var k in o) { print(k); o = {c: 3} } for (k in o) print(k)", "a", "b", "c")
	says(t, "function P() {} var p = new P; p.a = 1; p.b = 1; for (var k in p) { print(k); delete p.b; P.prototype.b = 1 }", "a", "b")
	// Those that are left out take no step.
	ends(t,
		end{src: "var o = {a: 1, b: 2, c: 3, d: 4}; for (var k in o) { delete o.b; delete o.c }", steps: 2},
		end{src: "for (var k in {a: 1, b: 1}) ;", steps: 2}, end{src: "for (var k in {}) ; for (k in null) ; for (k in 'ab') ;", steps: 2},
		end{src: "for (var k in {a: 1, b: 1}) for (var j in {c: 1, d: 1}) print(k + j)", steps: 6, lines: []string{"ac", "ad", "bc", "bd"}},
	)
}

// P84: what is assigned to.
func TestForInPlaces(t *testing.T) {
	says(t, "var o = {}, i = 0; for (o[i++] in {a: 1, b: 1}) print(i); print(o[0], o[1], i); for (o.k in {z: 1}) ; print(o.k)", "1", "2", "a b 2", "z")
	says(t, "function f() { for (var k in {a: 1}) ; for (x in {b: 1}) ; return k + x; var x } print(f(), typeof k, typeof x)", "ab undefined undefined")
	says(t, "for (var q = 5 in {}) ; print(q); for (var q = 6 in {a: 1}) ; print(q); for (var q = print('v') in (print('o'), {a: 1})) print(q)", "5", "a", "v", "o", "a")
	says(t, "var seen = []; var o = {set x(v) { seen[seen.length] = v }}; for (o.x in {a: 1, b: 1}) ; print(seen)", "a,b")
	says(t, "var k = 1; for (k in {a: 1, b: 2}) ; print(k); for (k in {}) ; print(k); this.g = 0; for (g in [9]) ; print(typeof g)", "b", "b", "string")
	// The place is done anew each time, behind the key and its step; the object once.
	ends(t,
		end{src: "function o() { print('o'); return l } function i() { print('i'); return 0 } function w() { print('w'); return {a: 1, b: 2} } var l = []; for (o()[i()] in w()) print(l[0])", steps: 7, lines: []string{"w", "o", "i", "a", "o", "i", "b"}},
		end{src: "for (null.x in {a: 1, b: 1}) print(1)", text: typeError, steps: 1},
		end{src: "for (null.x in {}) print(1)"},
		end{src: "for (null[print('k')] in {a: 1}) ;", text: typeError, steps: 1, lines: []string{"k"}},
		end{src: "for (zz in {a: 1}) ;", text: referenceError, steps: 1}, end{src: "for (zz in {}) ; for (zz in null) ;"},
		end{src: "for (zz.x in {a: 1}) ;", text: referenceError, steps: 1}, end{src: "for (var k in zz) ;", text: referenceError}, end{src: "for (var k = zz1 in zz2) ;", text: referenceError},
		end{src: "for (NaN in {a: 1}) ;", text: typeError, steps: 1}, end{src: "for ('a'.length in {a: 1}) ;", text: typeError, steps: 1},
		end{src: "var o = {}; for (o[{toString: function () { print('k'); return 'p' }}] in {a: 1, b: 1}) print(o.p)", steps: 4, lines: []string{"k", "a", "k", "b"}},
		end{src: "for ([].length in [5, 6, 7]) ;", text: "", steps: 3}, end{src: "for ([].length in {x: 1}) ;", text: rangeError, steps: 1},
	)
}

// P84: break, continue, return and throw out of it, and into the next.
func TestForInJumps(t *testing.T) {
	says(t, "for (var k in {a: 1, b: 2, c: 3}) { if (k == 'b') continue; print(k) } for (k in {a: 1, b: 2}) break; print(k)", "a", "c", "a")
	says(t, "l: for (var k in {a: 1, b: 2}) for (var j in {c: 1, d: 2}) { if (k == 'a') continue l; print(k, j); break l }", "b c")
	says(t, "function f() { for (var k in {a: 1}) for (var j in {b: 2}) return k + j } print(f(), f())", "ab ab")
	says(t, "for (var i = 0; i < 3; i++) { try { for (var k in {a: 1, b: 2}) { if (k == 'b') throw k; for (var j in {c: 1}) if (i) throw j } } catch (e) { print(i, e) } for (k in {x: 1, y: 2}) print(k) }", "0 b", "x", "y", "1 c", "x", "y", "2 c", "x", "y")
	says(t, "var n = 0; for (var k in {a: 1, b: 2}) { l: for (var j in {c: 1, d: 2}) { for (var i in {e: 1, f: 2}) { n++; if (k == 'a') break l; continue l } } } print(n)", "3")
	says(t, "for (var k in {a: 1, b: 2}) switch (k) { case 'a': continue; default: print(k); break } for (k in {a: 1}) l: { break l }", "b")
	says(t, "var f = []; for (var k in {a: 1, b: 2}) f[f.length] = function () { return k }; print(f[0](), f[1]())", "b b")
}

// P84: an object with many keys, and one behind many others.
func TestForInMany(t *testing.T) {
	says(t, "var o = {}, s = 0; for (var i = 0; i < 3000; i++) o['k' + i] = o[i] = i; for (var k in o) s += o[k]; print(s, k)", "8997000 k2999")
	says(t, "var o = {}; function F() {} for (var i = 0; i < 3000; i++) { F.prototype = o; o = new F; o['k' + i % 10] = 1 } var s = ''; for (var k in o) s += k; print(s)", strings.Join([]string{"k9", "k8", "k7", "k6", "k5", "k4", "k3", "k2", "k1", "k0"}, ""))
}

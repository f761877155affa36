package ecmacore_test

import (
	"strings"
	"testing"
)

// P74, P75, P78: get and set.
func TestAccessors(t *testing.T) {
	says(t, "var o = {get x() { return this.y * 2 }, set x(v) { this.y = v }, y: 1}; print(o.x); o.x = 5; print(o.x, o.y); o.x++; print(o.y); print(o.x += 1, o.y, --o['x'])", "2", "10 5", "11", "23 23 45")
	says(t, "var o = {get x() { return 1 }}; try { o.x = 2 } catch (e) { print(e.name) } try { o.x++ } catch (e) { print(e.name) } print(o.x, 'x' in o, delete o.x, 'x' in o)", "TypeError", "TypeError", "1 true true false")
	says(t, "var o = {set x(v) { print('set', v) }}; print(o.x, 'x' in o, o.x = 7); o.x += 1; print(delete o.x, o.x = 1, o.x)", "set 7", "undefined true 7", "set NaN", "true 1 1")
	says(t, "var o = {get get() { return 'g' }, set set(v) { print(v) }, get set() { return 's' }}; o.set = o.get + o.set", "gs")
	says(t, "var o = {get 1() { return 'one' }, get 'a b'() { return 'ab' }, get if() { return 'if' }, set: 4}; print(o[1], o['a b'], o.if, o.set); for (var k in o) print(k)", "one ab if 4", "1", "a b", "if", "set")
	says(t, "var o = {set a(v) { this.b = v }, c: 1, get a() { return 'g' + this.b }}; o.a = 2; print(o.a); for (var k in o) print(k)", "g2", "a", "c", "b")
	says(t, "var o = {get x() { return {n: 5} }}; print(o.x.n, o.x === o.x, typeof o.x)", "5 false object")
	says(t, "var o = {get x() { throw 'g' }, set x(v) { throw v }}; try { o.x } catch (e) { print(e) } try { o.x = 's' } catch (e) { print(e) } try { o.x += 1 } catch (e) { print(e) } try { o.x() } catch (e) { print(e) } try { delete o.x; print(o.x) } catch (e) { print(e) }", "g", "s", "g", "g", "undefined")
	// What a Set gives does not matter; the value of the assignment is what was assigned.
	says(t, "var o = {set x(v) { return 9 }}; print(o.x = 3, (o.x = 'a') + 'b')", "3 ab")
	// What is defined ahead of it in { } is there when a value is done.
	says(t, "var o = {a: print('a'), get b() { return 1 }, c: print('c'), set b(v) {}}; print(o.b)", "a", "c", "1")
}

// P74, P75: behind an object, and of values that are none: they are called on the value.
func TestAccessorsBehind(t *testing.T) {
	says(t, "function F() {} F.prototype = {get a() { return this.b }, set a(v) { this.b = v + 1 }}; var f = new F; f.a = 1; print(f.a, f.b, F.prototype.b, 'b' in F.prototype); f.a += 10; print(f.b)", "2 2 undefined false", "13")
	says(t, "function F() {} F.prototype = {get a() { return 1 }}; var f = new F; try { f.a = 2 } catch (e) { print(e.name) } for (var k in f) print(k)", "TypeError", "a")
	says(t, "function F() {} F.prototype = {set a(v) { print(v, this === f) }}; function G() {} G.prototype = new F; var f = new G; f.a = 5; print(f.a)", "5 true", "undefined")
	says(t, "var o = {get length() { return 2 }, 0: 'a', get 1() { return 'b' + this[0] }, join: [].join}; print(o.join('+'))", "a+ba")
	says(t, "function F() { return this } F.prototype = {x: 1}; var f = new F; f.x = 2; print(f.x, F.prototype.x); delete f.x; print(f.x)", "2 1", "1")
}

// P73: which function is asked for a primitive, and what it is called on.
func TestPrimitiveFunctions(t *testing.T) {
	const n = "var n = {valueOf: function () { print('v', this === n); return 4 }, toString: function () { print('s', this === n); return 't' }}; "
	for _, c := range []struct{ expression, asked, given string }{
		{"n + 1", "v", "5"}, {"1 + n", "v", "5"}, {"n + ''", "v", "4"}, {"n * 2", "v", "8"}, {"-n", "v", "-4"}, {"+n", "v", "4"}, {"~n", "v", "-5"}, {"n < 5", "v", "true"}, {"n >= '4'", "v", "true"}, {"n == 4", "v", "true"}, {"'4' == n", "v", "true"}, {"n << 1", "v", "8"}, {"n % 3", "v", "1"},
		{"[n] + ''", "s", "t"}, {"{t: 1}[n]", "s", "1"}, {"n in {t: 1}", "s", "true"}, {"Error(n).message", "s", "t"}, {"[1, 2].join(n)", "s", "1t2"}, {"(4).toString(n)", "v", "10"}, {"delete {}[n]", "s", "true"},
	} {
		says(t, n+"var r = "+c.expression+"; print(r)", c.asked+" true", c.given)
	}
	for _, expression := range []string{"!n", "n === n", "n == n", "n == {}", "n == null", "typeof n", "n && 1", "n || 1", "n ? 1 : 2", "void n", "n instanceof Error", "[n].length", "n.x", "n != undefined"} {
		says(t, n+expression)
	}
	says(t, n+"switch (n) { case 4: print('no') } if (n) print('yes'); for (var k in n) print(k); var x = n; x++; print(x)", "yes", "valueOf", "toString", "v true", "5")
	// If one gives an object the other is asked; if both do, or are none, it is a TypeError.
	says(t, "var n = {valueOf: function () { print('v'); return {} }, toString: function () { print('s'); return 't' }}; print(n + 1); print(n)", "v", "s", "t1", "s", "t")
	says(t, "var n = {valueOf: function () { print('v'); return 7 }, toString: function () { print('s'); return {} }}; print('' + [n]); print(n * 1)", "s", "v", "7", "v", "7")
	says(t, "var n = {valueOf: 5, toString: function () { return 't' }}; print(n + 1, n * 1); n = {toString: null, valueOf: function () { return 3 }}; print(n + 1, [n] + '')", "t1 NaN", "4 3")
	says(t, "var n = {valueOf: function () { return {} }, toString: function () { return {} }}; try { n + 1 } catch (e) { print(e.name) } try { [n] + '' } catch (e) { print(e.name) } try { ({})[n] } catch (e) { print(e.name) }", "TypeError", "TypeError", "TypeError")
	says(t, "var n = {get valueOf() { print('get v'); return function () { print('v'); return 1 } }, get toString() { print('get s') }}; print(n + 1); print([{get toString() { return function () { return 'x' } }}] + '')", "get v", "v", "2", "x")
	says(t, "var n = {valueOf: function () { return null }}, u = {valueOf: function () { return undefined }}, b = {valueOf: function () { return true }}, s = {valueOf: function () { return '5' }}; print(n + 1, u + 1, b + 1, s + 1, s * 2, n == null, n == 0, b == 1, s == 5, n < 1, '' + n)", "1 NaN 2 51 10 false false true true true null")
	// Functions and Arrays are objects, too.
	says(t, "function f() {} f.valueOf = function () { return 6 }; var a = [1]; a.valueOf = function () { return 7 }; print(f + 1, a + 1, f < a, '' + f, [a] + '')", "7 8 true 6 1")
	says(t, "function f() {} f.prototype.valueOf = function () { return this.n }; function g(n) { var o = new f; o.n = n; return o } print(g(1) + g(2), g(3) > g(2), g(4) == 4)", "3 true true")
}

// P81: which of both is asked first, and what follows when one of them throws.
func TestOrderOfOperands(t *testing.T) {
	const ab = "function n(name, v) { return {valueOf: function () { print(name); return v }} } var a = n('a', 1), b = n('b', 2), s = n('s', '3'), bad = {valueOf: function () { print('bad'); throw 'bad' }}; "
	for op, want := range map[string]string{"+": "3", "-": "-1", "*": "2", "/": "0.5", "%": "1", "<<": "4", ">>": "0", ">>>": "0", "&": "0", "|": "3", "^": "3", "<": "true", ">": "false", "<=": "true", ">=": "false"} {
		says(t, ab+"print(a "+op+" b)", "a", "b", want)
		if !strings.ContainsAny(op, "<>") || len(op) > 1 && !strings.Contains(op, "=") {
			says(t, ab+"var x = a; x "+op+"= b; print(x)", "a", "b", want)
		}
		says(t, ab+"try { bad "+op+" b } catch (e) { print(e) } try { a "+op+" bad } catch (e) { print(e) }", "bad", "bad", "a", "bad", "bad")
	}
	says(t, ab+"print(a == b, a === b, a != b); print(a == 1); print(1 == a); print(a == '1'); print(true == a); print(a == true); print(s == 3)", "false false true", "a", "true", "a", "true", "a", "true", "a", "true", "a", "true", "s", "true")
	says(t, ab+"print(s + a); print(a + s); print(s < a, a < s, s + s)", "s", "a", "31", "a", "s", "13", "s", "a", "a", "s", "s", "s", "false true 33")
	says(t, ab+"print(a in {1: 1}); try { a in 5 } catch (e) { print(e.name) } try { a instanceof b } catch (e) { print(e.name) }", "false", "TypeError", "TypeError")
	// Both operands are done ahead of all that.
	says(t, ab+"function l() { print('left'); return a } function r() { print('right'); return b } print(l() + r()); print(l() < r()); print(l() == r())", "left", "right", "a", "b", "3", "left", "right", "a", "b", "true", "left", "right", "false")
}

// P77, P80: a place is done once, ahead of what is assigned to it; its key is taken for a string once.
func TestPlacesOfFunctions(t *testing.T) {
	const o = "var q = {p: 1}; function o() { print('o'); return q } function k() { print('k'); return {toString: function () { print('s'); return 'p' }} } function v() { print('v'); return 5 } "
	for _, c := range []struct {
		src  string
		want []string
	}{
		{"o()[k()] = v()", []string{"o", "k", "s", "v", "5"}},
		{"o()[k()] += v()", []string{"o", "k", "s", "v", "6"}},
		{"o()[k()]++", []string{"o", "k", "s", "2"}},
		{"--o()[k()]", []string{"o", "k", "s", "0"}},
		{"delete o()[k()]", []string{"o", "k", "s", "undefined"}},
		{"o()[k()]", []string{"o", "k", "s", "1"}},
		{"o().p = v()", []string{"o", "v", "5"}},
		{"o().p -= v()", []string{"o", "v", "-4"}},
		{"typeof o()[k()]", []string{"o", "k", "s", "1"}},
	} {
		says(t, o+c.src+"; print(q.p)", c.want...)
	}
	ends(t,
		end{src: o + "q = null; o()[k()] = v()", text: typeError, steps: 2, lines: []string{"o", "k"}},
		end{src: o + "q = null; o().p = v()", text: typeError, steps: 1, lines: []string{"o"}},
		end{src: o + "q = undefined; o()[k()](v())", text: typeError, steps: 2, lines: []string{"o", "k"}},
		end{src: o + "o()[k()](v())", text: typeError, steps: 4, lines: []string{"o", "k", "s", "v"}},
		end{src: o + "new (o())[k()](v())", text: typeError, steps: 4, lines: []string{"o", "k", "s", "v"}},
		end{src: o + "zz = v()", text: referenceError, steps: 1, lines: []string{"v"}},
		end{src: o + "zz += v()", text: referenceError},
	)
	says(t, "var l = []; function a() { l[l.length] = 'a'; return {get x() { l[l.length] = 'get'; return 1 }, set x(v) { l[l.length] = 'set' + v }} } function b() { l[l.length] = 'b'; return 2 } a().x += b(); a().x++; a().x = b(); print(l)", "a,get,b,set3,a,get,set2,a,b,set2")
}

// P76: an Array's length asks twice.
func TestLengthAsks(t *testing.T) {
	says(t, "var n = 0, a = [1, 2, 3]; a.length = {valueOf: function () { n++; return 2 }}; print(n, a); try { a.length = {valueOf: function () { n++; return n }} } catch (e) { print(e.name, n, a.length) }", "2 1,2", "RangeError 4 2")
	says(t, "var a = [1, 2, 3]; try { a.length = {valueOf: function () { throw 'v' }} } catch (e) { print(e, a.length) } a.length = {valueOf: function () { a[7] = 1; return 8 }}; print(a.length)", "v 3", "8")
	says(t, "function F() {} F.prototype = [1, 2]; var f = new F; f.length = {valueOf: function () { print('no') }}; print(typeof f.length, F.prototype.length)", "object 2")
}

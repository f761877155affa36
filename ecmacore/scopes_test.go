package ecmacore_test

import (
	"strings"
	"testing"
)

// P77, P82: names are looked for from within outwards, in the scope in which a function was made.
func TestScopes(t *testing.T) {
	says(t, "var x = 'g'; function f() { return x } function h() { var x = 'h'; return f() } print(h())", "g")
	says(t, "var x = 'g'; function f(x) { return function () { return x } } var a = f(1), b = f(2); print(a(), b(), x)", "1 2 g")
	says(t, "function mk() { var n = 0; return {up: function () { return ++n }, get n() { return n }, set n(v) { n = v }} } var a = mk(), b = mk(); a.up(); a.up(); b.up(); b.n += 10; print(a.n, b.n, b.up())", "2 11 12")
	says(t, "function f() { var a = 1; function g() { var b = 2; function h() { a += b; b++; return a } return h } return g() } var h = f(); print(h(), h(), f()())", "3 6 3")
	says(t, "function f(n) { if (n) { var g = f(n - 1); return function () { return n + g() } } return function () { return 0 } } print(f(10)())", "55")
	says(t, "function f(n) { var me = n; if (n) f(n - 1); print(me) } f(2)", "0", "1", "2")
	says(t, "function outer() { inner(); return v; function inner() { v = 5 } var v } print(outer(), typeof v)", "5 undefined")
	says(t, "var l = []; function f(i) { l[i] = function () { return i++ } } for (var i = 0; i < 3; i++) f(i); print(l[0](), l[0](), l[1](), l[0](), i)", "0 1 1 2 3")
	says(t, "function f() { return typeof nowhere + typeof x + typeof f; var x = 1 } print(f())", "undefinedundefinedfunction")
	// A name that is in no scope is the global object's, as it is then.
	says(t, "function f() { return late } this.late = 1; print(f()); late = 2; print(f(), this.late)", "1", "2 2")
	says(t, "function f() { x = 1; this1.y = 2 } var this1 = this; this.x = 0; f(); print(x, y, delete this.x, typeof x)", "1 2 true undefined")
	says(t, "(function () { try { zz = 1 } catch (e) { print(e.name) } try { zz } catch (e) { print(e.name) } print(typeof zz) })()", "ReferenceError", "ReferenceError", "undefined")
	says(t, "(function () { var toString = 1; print(toString); (function () { toString++ })(); print(toString, typeof valueOf) })(); print(typeof toString)", "1", "2 function", "function")
	says(t, "var undefined2; (function (undefined, NaN, print2) { print(undefined, NaN); undefined = 3; NaN = 4; print(undefined, NaN) })(1, 2)", "1 2", "3 4")
}

// P84: what is caught has a scope of its own.
func TestCatchScopes(t *testing.T) {
	says(t, "var e = 'out'; try { throw 'in' } catch (e) { print(e); e = 'new'; print(e) } print(e)", "in", "new", "out")
	says(t, "try { throw 1 } catch (e) { var e = 2, f = 3; print(e, f) } print(e, f)", "2 3", "undefined 3")
	says(t, "(function () { try { throw 1 } catch (e) { for (var e in {k: 1}) ; print(e) } print(e) })()", "k", "undefined")
	says(t, "var l = []; for (var i = 0; i < 3; i++) try { throw i } catch (e) { l[i] = function () { return e++ } } print(l[0](), l[0](), l[1](), l[2](), typeof e)", "0 1 1 2 undefined")
	says(t, "function f(e) { try { throw 'in' } catch (e) { var g = function () { return e }; e = 'new' } return [e, g()] } print(f('param'))", "param,new")
	says(t, "try { throw 1 } catch (a) { try { throw 2 } catch (b) { try { throw 3 } catch (a) { print(a, b) } print(a, b) } print(a, typeof b) }", "3 2", "1 2", "1 undefined")
	// However it is left, names are those around it again.
	says(t, "var e = 'o'; for (var i = 0; i < 4; i++) { try { throw 'in' } catch (e) { if (i == 0) continue; if (i == 1) { } else if (i == 2) break } print(i, e) } print(e)", "1 o", "o")
	says(t, "var e = 'o'; l: { try { throw 1 } catch (e) { try { throw 2 } catch (e) { break l } } } print(e); try { try { throw 1 } catch (e) { throw 2 } } catch (x) { print(e, x) } try { try { throw 1 } catch (e) { zz1 } } catch (x) { print(e, x) }", "o", "o 2", "o ReferenceError")
	says(t, "var e = 'o'; function f() { try { throw 1 } catch (e) { return e } finally { print(e) } } print(f()); function g() { try { throw 1 } catch (e) { throw 2 } finally { print(e) } } try { g() } catch (x) { print(x, e) }", "o", "1", "o", "2 o")
	says(t, "(function (a) { try { throw 1 } catch (e) { a = e; (function () { a += e; e = 5 })(); print(e, a) } print(a) })()", "5 2", "2")
}

// P84: functions can lie as deep in each other as the text lets them.
func TestDeepScopes(t *testing.T) {
	const n = 29 // each is four deeper: a statement, two expressions, a function
	src := "var r; " + strings.Repeat("(function (a) { var b = a + 1; ", n) + "r = b;" + strings.Repeat(" })(b)", n-1) + " })(0); print(r)"
	says(t, src, "29")
	says(t, "var x = 'g'; print((function () { return "+strings.Repeat("(function () { return ", 15)+"x"+strings.Repeat(" })()", 15)+" })())", "g")
	catches := "throw 0"
	for range 30 {
		catches = "try { " + catches + " } catch (e) { throw e + 1 }"
	}
	says(t, "try { "+catches+" } catch (e) { print(e) }", "30")
}

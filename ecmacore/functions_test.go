package ecmacore_test

import (
	"fmt"
	"testing"

	"ecmacore/api"
	"ecmacore/ecmacore"
)

// P82: what a function is.
func TestFunctionObjects(t *testing.T) {
	gives(t,
		[2]string{"typeof function () {}, (function () {}).length, (function (a, b, c) {}).length, function () {}, {}.toString === (function () {}).toString", "function 0 3 function () { [code] } false"},
		[2]string{"(function f() {}).prototype, typeof (function () {}).prototype, 'name' in (function f() {}), 'caller' in function () {}, 'arguments' in function () {}", "[object Object] object false false false"},
	)
	says(t, "function f() {} print(f.prototype.constructor === f, f.prototype instanceof f, f.valueOf() === f, f.toString === print.toString, f instanceof f)", "true false true true false")
	says(t, "function mk() { return function () {} } var a = mk(), b = mk(); print(a === b, a.prototype === b.prototype, a.prototype.constructor === a)", "false false true")
	// Which flags they have.
	fails(t, typeError, "function f(a) {} f.length = 2", "function f(a) {} delete f.length", "function f() {} delete f.prototype", "(function () {}).length++")
	says(t, "function f() {} f.prototype = 5; print(f.prototype); f.x = 1; print(f.x, delete f.x, f.x)", "5", "1 true undefined")
	says(t, "function f() {} for (var k in f) print(k); for (k in f.prototype) print(k); f.prototype.constructor = 1; print(f.prototype.constructor, delete f.prototype.constructor, f.prototype.constructor)", "1 true undefined")
	says(t, "function f() {} var o = {toString: {}.toString}; f.t = {}.toString; print(f.t(), f.prototype.toString === {}.toString)", "[object Function] true")
}

// P82: parameters and arguments.
func TestParameters(t *testing.T) {
	says(t, "function f(a, b) { print(a, b) } f(); f(1); f(1, 2); f(1, 2, 3); f(undefined, null)", "undefined undefined", "1 undefined", "1 2", "1 2", "undefined null")
	says(t, "function f(a, b) { print(a, b, arguments.length, arguments[0], arguments[1], arguments[2]) } f(); f(1); f(1, 2, 3)", "undefined undefined 0 undefined undefined undefined", "1 undefined 1 1 undefined undefined", "1 2 3 1 2 3")
	// They do not hang together.
	says(t, "function f(a) { a = 5; print(arguments[0]); arguments[0] = 6; print(a, arguments[0]); delete arguments[0]; print(a, 0 in arguments) } f(1)", "1", "5 6", "5 false")
	says(t, "function f(a) { function a() {} print(typeof a, arguments[0]) } f(1)", "function 1")
	says(t, "function f() { print(arguments, typeof arguments.callee, typeof arguments.caller, arguments.join) } f()", "[object Arguments] undefined undefined undefined")
	says(t, "function f() { return arguments } var a = f(1, 2), b = f(1, 2); print(a === b, a[0], f.length); for (var k in a) print(k, a[k]); a.length = 7; a[2] = 3; print(a.length, a[2], delete a.length, 'length' in a, delete a[0], a[0])", "false 1 0", "0 1", "1 2", "7 3 true false true undefined")
	says(t, "function f() { return function () { return arguments.length + arguments[0] } } print(f(1, 2, 3)(10))", "11")
	says(t, "function f(a) { if (a) { var x = arguments; return f(0) } return typeof x } print(f(1)); (function () { try { throw 1 } catch (e) { print(arguments[0]) } })(8)", "undefined", "8")
	says(t, "var o = {get x() { return arguments.length }, set x(v) { print(arguments.length, arguments[0]) }}; print(o.x); o.x = 9", "0", "1 9")
	fails(t, referenceError, "arguments", "arguments.length", "print(arguments)")
	says(t, "print(typeof arguments); this.arguments = 5; print(arguments); (function () { print(arguments.length) })()", "undefined", "5", "0")
}

// P82: what each name is when a function begins.
func TestNamesOfFunctions(t *testing.T) {
	says(t, "function f() { print(a, typeof g, b); var a = 1; print(a); if (0) { var b } function g() {} } f()", "undefined function undefined", "1")
	says(t, "function f(a) { var a; print(a); var a = 2; print(a) } f(1); f()", "1", "2", "undefined", "2")
	says(t, "function f(a) { print(typeof a); function a() {} var a; print(typeof a); a = 1; print(a) } f(5)", "function", "function", "1")
	says(t, "(function () { print(g()); function g() { return 1 } function g() { return 2 } print(g()) })()", "2", "2")
	says(t, "(function () { print(typeof g); return; function g() {} })(); (function () { print(typeof h); if (0) { var h } else l: for (var h in {}) ; })()", "function", "undefined")
	says(t, "var x = 1; (function () { print(x); var x = 2; print(x) })(); print(x)", "undefined", "2", "1")
	says(t, "var x = 1; (function () { print(x); x = 2 })(); print(x)", "1", "2")
	says(t, "function f() { return this } print(typeof f(), f.call === undefined); var o = {f: f}; print(o.f() === o, (o.f)() === o, (0, o.f)(), (o.f || 0)(), o['f']() === o)", "undefined true", "true true undefined undefined true")
}

// P82: the name of a function expression.
func TestOwnName(t *testing.T) {
	says(t, "var k = function f(n) { return n ? n * f(n - 1) : 1 }; print(k(5), typeof f)", "120 undefined")
	says(t, "var k = function f() { return f }; print(k() === k)", "true")
	for _, src := range []string{"f = 1", "f += 1", "f++", "--f", "for (f in {a: 1}) ;", "(function () { f = 1 })()", "f = zz1()"} {
		name := "TypeError"
		if src == "f = zz1()" {
			name = "ReferenceError"
		}
		says(t, "(function f() { try { "+src+"; print('no') } catch (e) { print(e.name, typeof f) } })()", name+" function")
	}
	// It is put behind the right side, and not at all if nothing is assigned.
	ends(t,
		end{src: "(function f() { f = print('right') })()", text: typeError, steps: 1, lines: []string{"right"}},
		end{src: "(function f() { f += {valueOf: function () { print('v'); return 1 }} })()", text: typeError, steps: 2, lines: []string{"v"}},
		end{src: "(function f() { for (f in {}) ; f === 1; typeof f; print(delete !f) })()", steps: 1, lines: []string{"true"}},
		end{src: "(function f() { for (f in {a: 1}) print(1) })()", text: typeError, steps: 2},
	)
	// Whatever else has that name comes first.
	says(t, "(function f(f) { print(f); f = 2; print(f) })(1); (function f() { var f; print(f); f = 3; print(f) })(); (function f() { function f() { return 4 } print(f()); f = 5; print(f) })()", "1", "2", "undefined", "3", "4", "5")
	says(t, "(function f() { try { throw 1 } catch (f) { f = 2; print(f) } print(typeof f) })()", "2", "function")
	// A declared function's name is one of those around it.
	says(t, "function f() { f = 1; return f } print(f(), f); (function () { function g() { g = 2 } g(); print(g) })()", "1 1", "2")
}

// P83: functions of the program.
func TestProgramFunctions(t *testing.T) {
	says(t, "print(typeof f, 'f' in this, this.f === f, f()); function f() { return 1 }", "function true true 1")
	says(t, "print(f()); function f() { return 1 } function f() { return 2 }", "2")
	says(t, "var f = 1; function f() {} print(f); var g; function g() {} print(typeof g)", "1", "function")
	says(t, "for (var k in this) print(k); function b() {} var c; function a() {}", "b", "a", "k", "c")
	says(t, "function print2() {} function toString() { return 'mine' } print('' + this, {})", "mine [object Object]")
	fails(t, typeError, "function f() {} delete this.f", "function NaN() {}", "function Infinity() {}", "function undefined() {}", "print(1); function undefined() {}", "function a() {} function NaN() {} var b = zz1")
	w := ecmacore.New(0)
	for _, c := range []struct{ src, want string }{
		{"function f() { return 1 } var g = f, h = 5; this.i = 6", "[] "},
		{"print(f(), g === f); function f() { return 2 }", "[2 false] "},
		{"print(typeof h, typeof i, delete g.x); function h() {} function i() {}", "[function function true] "},
		{"delete this.i", "[] " + typeError},
		{"f = 7; var f; print(f)", "[7] "},
		{"print(f()); function f() { return 8 }", "[8] "},
		{"function later() {} function NaN() {}", "[] " + typeError},
		{"print(typeof later)", "[function] "},
		// print is configurable: it is defined anew, and is then as a function of the program's.
		{"this.p = print; for (var k in this) p(k)", "[f g h i later k p] "},
		{"function print() {} p(typeof print, print.length); for (k in this) p(k)", "[function 0 print f g h i later k p] "},
		{"delete this.print", "[] " + typeError},
	} {
		if r := w.Run(c.src, api.Limits{Steps: 20}); fmt.Sprint(r.Lines, " ", r.Text) != c.want {
			t.Errorf("%s: %+v", c.src, r)
		}
	}
}

// P79: calls.
func TestCallsOfFunctions(t *testing.T) {
	says(t, "function f() { print('f'); return g } function g(a, b) { print('g', a, b); return 1 } function a(x) { print('a', x); return x } print(f()(a(1), a(2)))", "f", "a 1", "a 2", "g 1 2", "1")
	says(t, "var o = {get f() { print('get'); return function () { print('called', this === o) } }}; o.f(print('arg'))", "get", "arg", "called true")
	says(t, "function f() {} print(f(), f() === undefined, (function () { return })(), (function () { return null })(), (function () { 5 })())", "undefined true undefined null undefined")
	says(t, "var s = 'abc'; print((function () { return typeof this })(), {f: function () { return typeof this }}.f()); Error.prototype.f = function () { return this.name }; print(new TypeError().f())", "undefined object", "TypeError")
	ends(t,
		end{src: "function a() { print('a') } (void 0)(a())", text: typeError, steps: 1, lines: []string{"a"}},
		end{src: "var o = {}; function a() { print('a') } o.f(a())", text: typeError, steps: 1, lines: []string{"a"}},
		end{src: "var o = {f: function () { print('f') }}; function a() { print('a'); o.f = 0 } o.f(a())", steps: 2, lines: []string{"a", "f"}},
		end{src: "function f() { print(1) } function a() { f = 0 } f(a())", steps: 2, lines: []string{"1"}},
		end{src: "function f() { throw 1 } print(f(zz1))", text: referenceError},
		end{src: "function f() { throw 1 } print('a', f(), zz1)", text: "number 1", steps: 1},
		end{src: "(function () { return zz1 })()", text: referenceError, steps: 1},
	)
	fails(t, typeError, "(function () {}).prototype()", "var f; f(); function g() {}", "new (function () {}).prototype")
}

// P79: new.
func TestNewOfFunctions(t *testing.T) {
	says(t, "function P(x) { this.x = x } P.prototype.get = function () { return this.x }; var p = new P(4), q = new P(5); print(p.get(), q.get(), p.constructor === P, p instanceof P, p, 'x' in P.prototype)", "4 5 true true [object Object] false")
	says(t, "function f() { print(this instanceof f); return 5 } var o = new f; print(typeof o, o instanceof f, o === new f)", "true", "true", "object true false")
	says(t, "var back = {a: 1}; function f() { return back } function g() { return [1] } function h() { return h } function i() { return null } function j() { return 'a' } print(new f === back, new g().length, new h === h, typeof new i, new j() instanceof j)", "true 1 true object true")
	for _, behind := range []string{"5", "'a'", "null", "undefined", "true"} {
		says(t, "function f() {} f.prototype = "+behind+"; var o = new f; print(o.toString === {}.toString, 'constructor' in o, o)", "true false [object Object]")
	}
	says(t, "function f() {} var a = new f; f.prototype = {x: 1}; var b = new f; print(a.x, b.x, a instanceof f, b instanceof f); f.prototype = [7]; b = new f; print(b.length, b[0], b)", "undefined 1 false true", "1 7 7")
	says(t, "function f(a, b) { this.n = arguments.length; this.a = a } print(new f().n, new f(1, 2, 3).n, new f(8).a, new f.prototype.constructor(9).a, (new f).n)", "0 3 8 9 0")
	says(t, "var o = {f: function () { this.y = 2 }, y: 1}; print(new o.f().y, o.y, new (function () { this.z = 3 })().z, new (o.f)().y)", "2 1 3 2")
	says(t, "function f() { this.a = 1; throw this } try { new f } catch (e) { print(e.a, e instanceof f) }", "1 true")
	ends(t,
		end{src: "function f() { this.x = print('in') } new f(print('arg'))", steps: 1, lines: []string{"arg", "in"}},
		end{src: "new (function () { throw 7 })(zz1)", text: referenceError},
		end{src: "new (function () { throw 7 })", text: "number 7", steps: 1},
	)
	// instanceof asks for the prototype as it is now.
	fails(t, typeError, "function f() {} f.prototype = 5; ({}) instanceof f", "function f() {} f.prototype = null; f instanceof f")
	says(t, "function f() {} var o = {}; f.prototype = 5; print(5 instanceof f, 'a' instanceof f)", "false false")
}

// P78: functions that are written out are new each time, and have the scope in which they stand.
func TestLambdas(t *testing.T) {
	says(t, "var l = []; for (var i = 0; i < 2; i++) l[i] = function () { return i }; print(l[0] === l[1], l[0](), l[1]())", "false 2 2")
	says(t, "print((function (a) { return function (b) { return function (c) { return a + b + c } } })('x')('y')('z'))", "xyz")
	says(t, "print([function () { return 1 }, function () { return 2 }][1](), {f: function () { return 3 }}.f(), (function () { return 4 })(), !function () { return 5 }(), 1 + function () { return 6 }())", "2 3 4 false 7")
}

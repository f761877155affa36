package ecmacore_test

import (
	"strings"
	"testing"

	"ecmacore/api"
	"ecmacore/ecmacore"
)

// takes: each program ends in so many steps, and is cut with one step less.
func (l level) takes(t *testing.T, cases ...taken) {
	t.Helper()
	for _, c := range cases {
		if r := l.run(c.src, many); r.How != api.Ended || r.Steps != c.steps {
			t.Errorf("%s\n got %+v\nwant %d steps", c.src, r, c.steps)
		}
		if c.steps == 0 {
			continue
		}
		if r := l.run(c.src, c.steps-1); r.How != api.Cut || r.Steps != c.steps-1 {
			t.Errorf("%s, with a step less\n got %+v", c.src, r)
		}
	}
}

type taken struct {
	src   string
	steps int
}

// P93: Function itself.
func TestFunctionConstructor(t *testing.T) {
	one.gives(t,
		[2]string{"typeof Function, Function.length, Function.prototype === Object.getPrototypeOf(print), Function.prototype.constructor === Function, Function instanceof Function, Object instanceof Function, Function instanceof Object", "function 1 true true true true true"},
		[2]string{"Function.prototype(1, 2), typeof Function.prototype, Function.prototype.length, print.constructor === Function, (function () {}).constructor === Function", "undefined function 0 true true"},
		[2]string{"Function.prototype.apply.length, Function.prototype.call.length, Function.prototype.bind.length", "2 1 1"},
	)
	one.fails(t, typeError, "Function()", "new Function", "Function('return 1')", "new Function('a', 'return a')", "Function({toString: function () { print('no') }})", "new Function.prototype", "new print.call(print)", "new print.apply", "new print.bind(print)")
	// It is called, and then refuses.
	const deep = "function f(n) { return n ? f(n - 1) : new Function } "
	one.ends(t, end{src: deep + "f(148)", text: typeError, steps: 149}, end{src: deep + "f(149)", text: rangeError, steps: 150})
}

// P93: call and apply.
func TestCallAndApply(t *testing.T) {
	const f = "function f() { var s = typeof this + ':' + this; for (var i = 0; i < arguments.length; i++) s += ' ' + arguments[i]; return s } "
	one.says(t, f+"print(f.call()); print(f.call(undefined)); print(f.call(null, 1)); print(f.call(5, 1, undefined)); print(f.call('a', 'b', 'c', 'd')); print(f.call(f, true) === 'function:' + f + ' true')", "undefined:undefined", "undefined:undefined", "object:null 1", "number:5 1 undefined", "string:a b c d", "true")
	one.says(t, f+"print(f.apply()); print(f.apply(5)); print(f.apply(5, null)); print(f.apply(5, undefined)); print(f.apply(5, [])); print(f.apply('a', [1, , 3])); print(f.apply(null, [[1, 2], 3]))", "undefined:undefined", "number:5", "number:5", "number:5", "number:5", "string:a 1 undefined 3", "object:null 1,2 3")
	one.says(t, f+"print(f.apply(1, {length: 2, 0: 'x', 1: 'y', 2: 'z'})); print(f.apply(1, {length: '1', 0: 'x'})); print(f.apply(1, {0: 'x'})); print(f.apply(1, {length: 4294967297, 0: 'x', 1: 'y'})); print(f.apply(1, Object('ab'))); print(f.apply(1, function (a) {})); print(f.apply(1, Object.create([7, 8])))", "number:1 x y", "number:1 x", "number:1", "number:1 x", "number:1 a b", "number:1 undefined", "number:1 7 8")
	one.says(t, f+"(function () { print(f.apply(this, arguments)) }).call(3, 4, 5)", "number:3 4 5")
	one.says(t, "print.call(null, 1, 2); print.apply(null, [3, 4]); print(print.call === print.apply.call, Object.prototype.toString.call([]), Array.prototype.join.call({length: 2, 0: 1, 1: 2}, '-'), print.call.call(Object.prototype.toString, null))", "1 2", "3 4", "true [object Array] 1-2 [object Null]")
	// What is thrown by it goes through; and so does what it gives.
	one.says(t, names+"print(names(function () { (function () { throw {name: 'mine'} }).call() }), (function () { return this }).call(7) === 7)", "mine true")
	for _, bad := range []string{"5", "'a'", "true", "0"} {
		one.fails(t, typeError, "print.apply(null, "+bad+")")
	}
	for _, this := range []string{"5", "{}", "[]", "undefined", "null", "'a'", "Object.prototype"} {
		for _, name := range []string{"call", "apply", "bind"} {
			one.fails(t, typeError, "Function.prototype."+name+".call("+this+")", "Function.prototype."+name+".call("+this+", null, {get length() { print('no') }})")
		}
	}
}

// P93: the places of apply's list: the length first, then a step and Get of each.
func TestApplySteps(t *testing.T) {
	one.takes(t,
		taken{"print.apply(null, [1, 2, 3])", 3}, taken{"print.apply(null, Array(5))", 5}, taken{"print.apply(null, null); print.apply(null); print.call(null, 1, 2); print.bind(null, 1)(2)", 0},
		taken{"(function () {}).apply(null, [1, 2])", 3}, taken{"(function () {}).call(null, 1, 2)", 1}, taken{"(function () {}).bind(null, 1)(2)", 1},
	)
	const list = "var l = {get length() { print('length'); return {valueOf: function () { print('number'); return 2 }} }, get 0() { print('0'); return 'a' }, get 1() { print('1'); return 'b' }}; "
	one.ends(t, end{src: list + "print.apply(null, l)", steps: 6, lines: []string{"length", "number", "0", "1", "a b"}})
	r := one.run(list+"print.apply(null, l)", 4)
	if want := "length number 0"; r.How != api.Cut || strings.Join(r.Lines, " ") != want {
		t.Errorf("%+v", r)
	}
	// A place goes, or comes, while they are gone through.
	one.says(t, "var l = [{}, 2, 3]; Object.defineProperty(l, 0, {get: function () { l.length = 1; return 'a' }}); print.apply(null, l); var m = {length: 2, get 0() { m[1] = m[2] = 'b'; return 'a' }}; print.apply(null, m)", "a undefined undefined", "a b")
	one.fails(t, typeError, "print.apply(null, {length: {valueOf: 0, toString: 0}})")
	if r := one.run("print.apply(null, {length: 4294967295})", many); r.How != api.Cut || r.Steps != many {
		t.Errorf("%+v", r)
	}
}

// P72: call and apply are calls, and what they call is another.
func TestDepthOfCall(t *testing.T) {
	one.ends(t,
		end{src: "function f(n) { return n ? f.call(null, n - 1) : 'end' } print(f(74))", steps: 75, lines: []string{"end"}},
		end{src: "function f(n) { return n ? f.call(null, n - 1) : 'end' } print(f(75))", steps: 75, text: rangeError},
		end{src: "function f(n) { return n ? f.apply(null, [n - 1]) : 'end' } print(f(74))", steps: 149, lines: []string{"end"}},
		end{src: "function f(n) { return n ? f.apply(null, [n - 1]) : 'end' } print(f(75))", steps: 150, text: rangeError},
		end{src: "function f(n) { return n ? b(n - 1) : 'end' } var b = f.bind(null).bind(1).bind(2); print(f(149))", steps: 150, lines: []string{"end"}},
		end{src: "function f(n) { return n ? b(n - 1) : 'end' } var b = f.bind(null); print(f(150))", steps: 150, text: rangeError},
		end{src: "function F(n) { if (n) this.f = new B(n - 1) } var B = F.bind(null); new B(149)", steps: 150},
		end{src: "function F(n) { if (n) this.f = new B(n - 1) } var B = F.bind(null); new B(150)", steps: 150, text: rangeError},
		end{src: "function f(n) { return n ? [n].map(function (n) { return f(n - 1) })[0] : 'end' } print(f(49))", steps: 148, lines: []string{"end"}},
		end{src: "function f(n) { return n ? [n].map(function (n) { return f(n - 1) })[0] : 'end' } print(f(50))", steps: 150, text: rangeError},
	)
}

// P93: bound functions, when they are called.
func TestBoundCalled(t *testing.T) {
	const f = "function f(a, b, c) { return this + ' ' + a + ' ' + b + ' ' + c + ' ' + arguments.length } "
	one.says(t, f+"print(f.bind()()); print(f.bind(1)(2)); print(f.bind(1, 2)(3, 4, 5)); print(f.bind(1, 2, 3, 4, 5)(6)); print(f.bind(null).call(7, 8)); print(f.bind(null, 1).apply(7, [8, 9]))", "undefined undefined undefined undefined 0", "1 2 undefined undefined 1", "1 2 3 4 4", "1 2 3 4 5", "null 8 undefined undefined 1", "null 1 8 9 3")
	one.says(t, f+"print(f.bind(1, 2).bind(3, 4)(5)); print(f.bind(1).bind(2, 3).bind(4, 5, 6)(7))", "1 2 4 5 3", "1 3 5 6 4")
	one.says(t, "var p = print.bind(null, 'a'); p(); p('b', 'c'); var join = Array.prototype.join.call.bind(Array.prototype.join); print(join([1, 2], '-')); [1, 2].forEach(print.bind(null, 'x'))", "a", "a b c", "1-2", "x 1 0 1,2", "x 2 1 1,2")
	one.says(t, "var o = Object.defineProperty({k: 1}, 'x', {get: function () { return this.k }.bind({k: 2}), set: function (a, b) { print(this.k, a, b) }.bind({k: 3}, 4)}); print(o.x); o.x = 5; print({valueOf: function (x) { return x }.bind(0, 7)} * 2)", "2", "3 4 5", "14")
	// The arguments that it keeps are its own.
	one.says(t, "var b = (function () { arguments[0] = 'changed'; return arguments.length }).bind(null, 1); print(b(), b(2)); var c = (function (a) { return a++ }).bind(null, 1); print(c(), c())", "1 2", "1 1")
	one.fails(t, typeError, "(function () { throw new TypeError }).bind.call({})", "print.bind(null, {toString: 0, valueOf: 0})()")
}

// P93: what a bound function is.
func TestBoundItself(t *testing.T) {
	one.gives(t,
		[2]string{"typeof print.bind(), {}.toString.call(print.bind()), Object.getPrototypeOf(print.bind()) === Function.prototype, Object.getOwnPropertyNames((function (a) {}).bind()), Object.isExtensible(print.bind()), print.bind() === print.bind(), print.bind() + ''", "function [object Function] true length true false function () { [code] }"},
		[2]string{"(function (a, b, c) {}).bind().length, (function (a, b, c) {}).bind(1).length, (function (a, b, c) {}).bind(1, 2).length, (function (a, b, c) {}).bind(1, 2, 3, 4).length, (function (a, b, c) {}).bind(1, 2, 3, 4, 5).length, print.bind().length, (function (a, b, c) {}).bind(0, 1).bind(0, 1).length", "3 3 2 0 0 1 1"},
		[2]string{"'prototype' in print.bind(), 'prototype' in (function () {}).bind(), Object.keys(print.bind()).length, print.bind().constructor === Function, print.bind() instanceof Function, print.bind() instanceof Object", "false false 0 true true true"},
	)
	one.says(t, tell+"print(tell((function (a, b) {}).bind(), 'length')); var b = print.bind(); b.x = 1; print(b.x, print.x)", "2:", "1 undefined")
	one.fails(t, typeError, "print.bind().length = 5", "delete print.bind().length", "(function () {}).bind().x.y")
}

// P79, P93: new of bound functions.
func TestBoundNew(t *testing.T) {
	const f = "function P(a, b) { this.s = a + '-' + b + '-' + arguments.length } "
	one.says(t, f+"var B = P.bind({}, 1), C = B.bind(null, 2); print(new B(2).s, new B().s, new C().s, new C(3).s, new B().constructor === P, Object.getPrototypeOf(new C) === P.prototype)", "1-2-2 1-undefined-1 1-2-2 1-2-3 true true")
	one.says(t, f+"var on = {}, B = P.bind(on); new B(1, 2); print('s' in on); B.prototype = {x: 1}; print(new B().x, B.prototype.x); P.prototype = {x: 2}; print(new B().x)", "false", "undefined 1", "2")
	one.says(t, "var o = {}, B = (function () { return o }).bind(); print(new B === o); B = (function () { return 5 }).bind(); print(typeof new B)", "true", "object")
	one.says(t, "var A = Array.bind(null, 1, 2), E = TypeError.bind(5, 'm'), O = Object.bind(null, 'ab'); print(new A(3), A(4), new A().length, new E, new O().length, new E instanceof TypeError)", "1,2,3 1,2,4 2 TypeError: m 2 true")
	one.fails(t, typeError, "new (print.bind())", "new (print.bind().bind())", "new (Object.keys.bind(null, {}))", "new ((function () {}).bind.bind())", "new (Function.bind())", "new (Function.prototype.bind())")
	one.takes(t, taken{"function F() {} new (F.bind().bind())", 1})
}

// P81: instanceof of bound functions: the target counts.
func TestBoundInstance(t *testing.T) {
	one.says(t, "function P() {} var B = P.bind(), C = B.bind(null, 1), p = new P; print(p instanceof B, p instanceof C, new C instanceof P, new C instanceof B, {} instanceof B, 5 instanceof B, [] instanceof Array.bind(), {} instanceof Object.bind().bind())", "true true true true false false true true")
	one.says(t, "function P() {} var B = P.bind(); B.prototype = Array.prototype; print([] instanceof B, new P instanceof B); P.prototype = Array.prototype; print([] instanceof B)", "false true", "true")
	one.fails(t, typeError, "({}) instanceof print.bind()", "function P() {} P.prototype = 5; ({}) instanceof P.bind()", "({}) instanceof print.bind().bind()")
	one.gives(t, [2]string{"5 instanceof print.bind(), 'a' instanceof print.bind().bind()", "false false"})
}

// P1, P93: functions that are bound in a long row.
func TestBoundRow(t *testing.T) {
	const row = "function f() { return arguments.length } var b = f; for (var i = 0; i < 20000; i++) b = b.bind(null, i); "
	one.ends(t,
		end{src: row + "print(b(1))", steps: 20001, lines: []string{"20001"}},
		end{src: row + "print(new b() instanceof f, b.length)", steps: 20001, lines: []string{"true 0"}},
		end{src: "var b = print; for (var i = 0; i < 20000; i++) b = b.bind(); try { new b } catch (e) { print(e.name) } b('called')", steps: 20000, lines: []string{"TypeError", "called"}},
		end{src: "var b = function () { return arguments[0] + ' ' + arguments[1] + ' ' + arguments[9999] + ' ' + arguments[10000] }; for (var i = 0; i < 10000; i++) b = b.bind(null, i); print(b('last'))", steps: 10001, lines: []string{"0 1 9999 last"}},
	)
}

// What a bound function is bound to is kept as long as it is, and no longer.
func TestBoundKept(t *testing.T) {
	w := ecmacore.New(1)
	first := w.Stats().Live
	w.Run("var b = function () { return this.x + arguments[0].x + arguments[1].x }.bind({x: 1}, {x: 2}, {x: 3}).bind({x: 4})", api.Limits{})
	w.Collect()
	if n := w.Stats().Live - first; n != 8 { // the function and its prototype, both bound ones, and four objects
		t.Errorf("%d objects", n)
	}
	if r := w.Run("for (var i = 0; i < 5000; i++) ({}); print(b()); b = 0", api.Limits{Steps: many}); r.How != api.Ended || r.Lines[0] != "6" {
		t.Errorf("%+v", r)
	}
	w.Collect()
	if n := w.Stats().Live - first; n != 0 {
		t.Errorf("%d objects", n)
	}
}

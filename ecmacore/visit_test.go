package ecmacore_test

import (
	"testing"

	"ecmacore/api"
)

// P96: what the functions give that call another with each item.
func TestVisits(t *testing.T) {
	one.gives(t,
		[2]string{"[].every(print), [1, 2].every(function (x) { return x }), [1, 0, 2].every(function (x) { return x }), [, ,].every(function () { return false }), ['', 1].every(function () { return 'x' })", "true true false true true"},
		[2]string{"[].some(print), [0, 1].some(function (x) { return x }), [0, ''].some(function (x) { return x }), [, ,].some(function () { return true }), [NaN].some(function (x) { return x })", "false true false false false"},
		[2]string{"[1].forEach(function () { return 5 }), [].forEach(print), typeof [].forEach", "undefined undefined function"},
		[2]string{"[1, 2, 3].filter(function (x) { return x > 1 }), [1, , undefined, 0].filter(function () { return 1 }).length, [].filter(print).length, [1, 2].filter(function () {}).length, Array.isArray([].filter(print))", "2,3 3 0 0 true"},
		[2]string{"[1, 2].map(function (x) { return x * 2 }), [].map(print).length, [1, , 3].map(function (x) { return x }).length, 1 in [1, , 3].map(function () { return 1 }), Array(5).map(print).length, Array.isArray([].map(print))", "2,4 0 3 false 5 true"},
		[2]string{"[1, 2, 3].reduce(function (a, b) { return a + '-' + b }), [1, 2, 3].reduceRight(function (a, b) { return a + '-' + b }), [1, 2].reduce(function (a, b) { return a + b }, 10), [1, 2].reduceRight(function (a, b) { return a + '' + b }, '')", "1-2-3 3-2-1 13 21"},
		[2]string{"[7].reduce(print), [, 7, ,].reduceRight(print), [].reduce(print, 5), [].reduceRight(print, undefined), [undefined].reduce(print), [, ,].reduce(print, 'x')", "7 7 5 undefined undefined x"},
		[2]string{"[].every.length, [].some.length, [].forEach.length, [].map.length, [].filter.length, [].reduce.length, [].reduceRight.length", "1 1 1 1 1 1 1"},
	)
	// With a second argument that is undefined there is one.
	one.says(t, "print([1, 2].reduce(function (a, b) { return a + ' ' + b }, undefined), [1].reduceRight(function (a, b) { return a + ' ' + b }, undefined))", "undefined 1 2 undefined 1")
	one.says(t, "var a = [1, 2], b = a.map(function (x) { return x }), c = a.filter(function () { return 1 }); print(a === b, a === c, b, c)", "false false 1,2 1,2")
	one.says(t, all+"print(all([].map.call('abc', function (c) { return c + c })), all([].filter.call({length: 4, 0: 'a', 2: 'c', 4: 'e'}, function () { return true })), [].reduce.call('abc', function (a, b) { return b + a }), [].every.call(5, print))", "[aa,bb,cc]3 [a,c]2 cba true")
}

// P96: with what the function is called, and on what.
func TestVisitCalls(t *testing.T) {
	for _, name := range []string{"every", "some", "forEach", "map", "filter"} {
		gives := map[string]string{"every": "true"}[name]
		f := "function (v, i, o) { print(typeof this, this, v, i, o === l, arguments.length); return " + gives + " }"
		one.says(t, "var l = ['a', , 'c']; l."+name+"("+f+", 5)", "number 5 a 0 true 3", "number 5 c 2 true 3")
		one.says(t, "var l = ['a']; l."+name+"("+f+"); l."+name+"("+f+", null); l."+name+"("+f+", 'on', 'more')", "undefined undefined a 0 true 3", "object null a 0 true 3", "string on a 0 true 3")
		one.says(t, "Array.prototype."+name+".call('ab', function (v, i, o) { print(typeof o, v, typeof i, o.length, o === this); return "+gives+" }, 7)", "object a number 2 false", "object b number 2 false")
		// A missing place, and undefined.
		one.says(t, "[undefined, , null]."+name+"(function (v, i) { print(v, i); return "+gives+" })", "undefined 0", "null 2")
	}
	one.says(t, "var l = ['a', 'b', , 'd']; function f(s, v, i, o) { print(typeof this, s, v, i, o === l, arguments.length); return i } l.reduce(f); l.reduceRight(f); l.reduce(f, 'x', 'more')", "undefined a b 1 true 4", "undefined 1 d 3 true 4", "undefined d b 1 true 4", "undefined 1 a 0 true 4", "undefined x a 0 true 4", "undefined 0 b 1 true 4", "undefined 1 d 3 true 4")
	// every and some ask no more than they must.
	one.says(t, "[1, 0, 2].every(function (v) { print('e', v); return v }); [0, 1, 2].some(function (v) { print('s', v); return v })", "e 1", "e 0", "s 0", "s 1")
}

// P96: each item takes a step, and each function of the program's that is entered.
func TestVisitSteps(t *testing.T) {
	for _, name := range []string{"every", "some", "forEach", "map", "filter"} {
		gives := map[string]string{"every": "1", "some": "0"}[name]
		one.takes(t, taken{"[1, , 3]." + name + "(function () { return " + gives + " })", 5}, taken{"Array(4)." + name + "(print)", 4}, taken{"[]." + name + "(print)", 0})
	}
	one.takes(t,
		taken{"[1, 2].map(Object); [1, 2].forEach(Object)", 4}, taken{"[1, 2, 3].every(function (x) { return x < 2 })", 4}, taken{"[1, 2, 3].some(function (x) { return x > 1 })", 4},
		taken{"[1, 2, 3].reduce(function () {})", 5}, taken{"[1, , 3].reduceRight(function () {}, 0)", 5}, taken{"[1].reduce(print)", 1}, taken{"[, , 1].reduce(print)", 3}, taken{"[].reduce(print, 1); [].reduceRight(print, 1)", 0},
	)
	one.ends(t, end{src: "Array(5).reduce(print)", steps: 5, text: typeError}, end{src: "[, ,].reduceRight(print)", steps: 2, text: typeError}, end{src: "[].reduce(print)", text: typeError})
	r := one.run("[1, 2, 3].forEach(function (x) { print(x) })", 3)
	if r.How != api.Cut || len(r.Lines) != 1 {
		t.Errorf("%+v", r)
	}
	if r := one.run("[].forEach.call({length: 4294967295}, print)", 700); r.How != api.Cut || r.Steps != 700 {
		t.Errorf("%+v", r)
	}
}

// P96: the function is asked behind the list, and ahead of the items.
func TestVisitNeeds(t *testing.T) {
	for _, name := range []string{"every", "some", "forEach", "map", "filter", "reduce", "reduceRight"} {
		one.fails(t, typeError, "[]."+name+"()", "[1]."+name+"(undefined)", "[1]."+name+"(null)", "[1]."+name+"({})", "[]."+name+"('a', 1)", "[]."+name+"(5)", "[]."+name+".call(undefined, print)", "[]."+name+".call(null, print, 1)", "[]."+name+".call({length: {valueOf: 0, toString: 0}}, print)")
		one.ends(t, end{src: "[]." + name + ".call({get length() { print('length'); return 1 }, get 0() { print('no') }}, 5)", text: typeError, steps: 1, lines: []string{"length"}})
	}
}

// P96: functions that change the list while it is gone through.
func TestVisitChanges(t *testing.T) {
	const log = all + "var s = ''; "
	one.says(t, log+"var a = [1, 2, 3, 4]; a.forEach(function (v, i) { s += v + ' '; if (i == 0) { delete a[1]; a[2] = 'new'; a[5] = 'far' } }); print(s, all(a))", "1 new 4  [1, ,new,4, ,far]6")
	one.says(t, log+"var a = [1, 2, 3]; print(all(a.map(function (v) { s += v; a.length = 1; return v })), s)", "[1, , ]3 1")
	one.says(t, log+"var a = [1, 2]; print(a.every(function (v) { s += v; a.push(9); return a.length < 10 }), s, a.length)", "true 12 4")
	one.says(t, log+"var a = [1, , 3]; print(all(a.filter(function (v) { s += v; a[1] = 'came'; return true })), s)", "[1,came,3]3 1came3")
	one.says(t, log+"var a = [1, 2, 3, 4]; print(a.reduce(function (x, v) { s += v; a.length = 3; return x + v }), s, a.reduceRight(function (x, v, i) { delete a[i - 1]; return x + v }))", "6 23 5")
	one.says(t, log+"var a = [1, 2, 3]; Object.defineProperty(a, 0, {get: function () { Array.prototype[2] = 'p'; a.length = 2; return 'g' }, configurable: true}); a.forEach(function (v) { s += v }); print(s); delete Array.prototype[2]", "g2p")
	// What is given to filter is what was there when it was asked.
	one.says(t, log+"var a = [1, 2]; print(a.filter(function (v, i) { a[i] = 'x'; return true }), a)", "1,2 x,x")
	// What is thrown ends it.
	one.says(t, log+"try { [1, 2, 3].forEach(function (v) { s += v; if (v == 2) throw 'stop' }) } catch (e) { print(e, s) }", "stop 12")
	// New Arrays are defined, not put.
	one.says(t, tell+"Object.defineProperty(Array.prototype, 0, {get: function () { return 'p' }, set: print}); print(tell([5].map(function (x) { return x }), 0), tell([5].filter(function (x) { return x }), 0), tell(Object.create([6]), 0))", "5:wec 5:wec undefined")
	one.says(t, tell+"print(tell(Array(3).map(print), 'length'), tell([1].map(print.bind(null, 'x')), 0))", "x 1 0 1", "3:w undefined:wec")
}

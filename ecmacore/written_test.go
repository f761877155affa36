package ecmacore_test

import (
	"fmt"
	"strings"
	"testing"

	"ecmacore/api"
)

// P113: values of all sorts, and objects of all classes.
func TestWritten(t *testing.T) {
	writes(t,
		[2]string{"[null, true, false, 0, -0, 1.5, -7, 1e21, 1e-7, 5e-324, 123456789012345680000]", "[null,true,false,0,0,1.5,-7,1e+21,1e-7,5e-324,123456789012345680000]"}, [2]string{"[NaN, 1 / 0, -1 / 0]", "[null,null,null]"}, [2]string{"NaN", "null"}, [2]string{"{a: 1 / 0}", `{"a":null}`},
		[2]string{"{a: undefined, b: print, c: function () {}, d: Error, e: print.bind(), f: 1}", `{"f":1}`}, [2]string{"[undefined, print, function () {}, 1]", "[null,null,null,1]"}, [2]string{"{a: undefined}", "{}"}, [2]string{"[undefined]", "[null]"},
		[2]string{"[Object(5), Object('s'), Object(true), Object(false), new Number(NaN), new String(''), new Boolean(0)]", `[5,"s",true,false,null,"",false]`}, [2]string{"Object(5)", "5"}, [2]string{"Object('a\"')", `"a\""`}, [2]string{"{a: Object(1 / 0), b: Object('')}", `{"a":null,"b":""}`},
		[2]string{"[Number.prototype, String.prototype, Boolean.prototype, Array.prototype, RegExp.prototype, Error.prototype]", `[0,"",false,[],{},{}]`}, [2]string{"Function.prototype", "undefined"},
		[2]string{"[/a/g, new Error('x'), Math, JSON, (function () { return arguments })(1, 'b'), Object.create(null), Object.create([1])]", `[{},{},{},{},{"0":1,"1":"b"},{},{}]`}, [2]string{"this", "{}"},
	)
	// Of classes Number and String what they are taken for, of Boolean its value; and only that is asked.
	three.says(t, "function over(o, x) { o.valueOf = function () { print('valueOf'); return x }; o.toString = function () { print('toString'); return x }; return o } print(JSON.stringify([over(Object(5), 6), over(Object('a'), 'b'), over(Object(true), false), over(Object(5), 'x'), over(Object(5), '0x10'), over(Object('a'), 7), over(Object('a'), undefined), over(Object(5), undefined), over(Object(5), null), over([1], 3), over({}, 3)]))",
		"valueOf", "toString", "valueOf", "valueOf", "toString", "toString", "valueOf", "valueOf", `[6,"b",true,null,16,"7","undefined",null,0,[1],{}]`)
	three.ends(t, end{src: "var n = Object(5); n.valueOf = n.toString = 0; JSON.stringify([n, {toJSON: print}])", text: typeError, steps: 2}, end{src: "var s = Object('a'); s.valueOf = s.toString = 0; JSON.stringify(s)", text: typeError, steps: 1})
	three.says(t, "var b = Object(true); b.valueOf = b.toString = 0; var n = Object(5); n.valueOf = {}; n.toString = function () { return '8' }; print(JSON.stringify([b, n]))", "[true,8]")
	// What an object of these classes has beside its value is not written.
	three.says(t, "var n = Object(5), s = Object('a'), b = Object(true); n.x = s.x = b.x = {get y() { print('no') }}; print(JSON.stringify([n, s, b]))", `[5,"a",true]`)
}

// P113: strings, and keys, in quotes.
func TestWrittenStrings(t *testing.T) {
	escapes := map[int]string{'"': `\"`, '\\': `\\`, 8: `\b`, 12: `\f`, 10: `\n`, 13: `\r`, 9: `\t`}
	var got, want string
	for u := range 300 {
		got += fmt.Sprintf("\\u%04x", u)
		switch e, is := escapes[u]; {
		case is:
			want += e
		case u < 32:
			want += fmt.Sprintf("\\u00%02x", u)
		default:
			want += string(rune(u))
		}
	}
	three.says(t, "var s = '"+got+"', o = {}; o[s] = s; print(JSON.stringify(s)); print(JSON.stringify(o)); print(JSON.parse(JSON.stringify(s)) === s, JSON.stringify(Object(s)) === JSON.stringify(s), JSON.stringify([s]) === '[' + JSON.stringify(s) + ']')", `"`+want+`"`, `{"`+want+`":"`+want+`"}`, "true true true")
	three.says(t, "print(JSON.stringify('\\u2028\\u2029\\ufeff\\u007f/'), JSON.stringify('\\ud83d\\ude00'), JSON.stringify('\\ud83d') === '\"\\ud83d\"', JSON.stringify('\\ude00\\ud83d') === '\"\\ude00\\ud83d\"', JSON.stringify('\\ud83d').length, JSON.stringify('\\ud83d\\ude00\\u00e9').length)", "\"\u2028\u2029\ufeff\u007f/\" \"\U0001F600\" true true 3 5")
	three.says(t, "for (var bad = 0, i = 32; i < 65536; i += 11) { var u = String.fromCharCode(i); if (i != 92 && (JSON.stringify(u) !== '\"' + u + '\"' || JSON.parse(JSON.stringify(u)) !== u)) bad++ } print(bad)", "0")
}

// P113: toJSON: of objects alone, on the value, with the key.
func TestWrittenToJSON(t *testing.T) {
	three.says(t, see+"function j() { print(this === o, arguments.length, typeof arguments[0], arguments[0]); return 'j' } var o = {toJSON: j, x: 1}; print(JSON.stringify(o), JSON.stringify([1, o]), JSON.stringify({a: o}), JSON.stringify({5: o}))", "true 1 string ", "true 1 string 1", "true 1 string a", "true 1 string 5", `"j" [1,"j"] {"a":"j"} {"5":"j"}`)
	writes(t,
		[2]string{"{toJSON: function () {}}", "undefined"}, [2]string{"[{toJSON: function () {}}]", "[null]"}, [2]string{"{a: {toJSON: function () {}}}", "{}"}, [2]string{"{toJSON: function () { return print }}", "undefined"},
		[2]string{"{toJSON: 5}", `{"toJSON":5}`}, [2]string{"{toJSON: {}}", `{"toJSON":{}}`}, [2]string{"{toJSON: undefined, a: null}", `{"a":null}`}, [2]string{"{toJSON: /a/}", `{"toJSON":{}}`}, [2]string{"Object.create({toJSON: function () { return [1] }})", "[1]"},
		// What it gives is not asked again.
		[2]string{"{toJSON: function () { return {toJSON: function () { return 1 }, a: 2} }}", `{"a":2}`}, [2]string{"{toJSON: function () { return this }, a: 1}", `{"a":1}`}, [2]string{"{toJSON: function () { return {a: {toJSON: function (k) { return k + '!' }}} }}", `{"a":"a!"}`},
		[2]string{"{toJSON: function () { return Object(7) }}", "7"},
	)
	three.says(t, "print(JSON.stringify({a: {toJSON: print.bind(null, 'x')}, b: {toJSON: Object}}))", "x a", `{"b":"b"}`)
	// Functions and objects of other classes have it, too; strings, numbers and booleans are not asked.
	three.says(t, "function f() {} f.toJSON = function () { return 'f' }; var n = Object(5), a = [1]; n.toJSON = function () { return typeof this }; a.toJSON = function (k) { return this.length + k }; print(JSON.stringify([f, n, a]), JSON.stringify(f))", `["f","object","12"] "f"`)
	three.says(t, "[Number, String, Boolean].forEach(function (c) { c.prototype.toJSON = function () { return 'no' } }); print(JSON.stringify([1, 'a', true]), JSON.stringify('x'), JSON.stringify([Object(1)])); Object.prototype.toJSON = function (k) { return 'all' + k }; print(JSON.stringify({}), JSON.stringify([{}]), JSON.stringify(null), JSON.stringify(print), JSON.stringify(undefined))", `[1,"a",true] "x" ["no"]`, `"all" "all" null "all" undefined`)
	three.ends(t,
		end{src: "JSON.stringify([1, {get toJSON() { print('get'); throw 5 }}])", text: "number 5", steps: 4, lines: []string{"get"}},
		end{src: "JSON.stringify([{toJSON: function () { throw this.x }, x: 6}, {toJSON: print}])", text: "number 6", steps: 3},
		end{src: "print(JSON.stringify({get toJSON() { print('get'); return function () { print('called'); return 1 } }}))", steps: 3, lines: []string{"get", "called", "1"}},
	)
}

// P113: for each key: a step, Get, toJSON, the function, what an object is taken for; all of what is in it ahead of the next.
func TestWrittenOrder(t *testing.T) {
	const o = `function box(k) { var n = Object(1); n.valueOf = function () { print(k, 'valueOf'); return k.length }; return n }
function part(k, v) { return {get toJSON() { print(k, 'toJSON'); return function (key) { print(k, 'called', key); return v } }} }
var o = {get a() { print('a'); return part('pa', box('ba')) }, get b() { print('b'); return {c: part('pc', [box('b0')])} }, get d() { print('d'); return 5 }}; `
	three.says(t, o+"print(JSON.stringify(o))", "a", "pa toJSON", "pa called a", "ba valueOf", "b", "pc toJSON", "pc called c", "b0 valueOf", "d", `{"a":2,"b":{"c":[2]},"d":5}`)
	three.says(t, o+"print(JSON.stringify(o, function (k, v) { print('f', k, typeof v, this === o); return v }))", "f  object false", "a", "pa toJSON", "pa called a", "f a object true", "ba valueOf", "b", "f b object true", "pc toJSON", "pc called c", "f c object false", "f 0 object false", "b0 valueOf", "d", "f d number true", `{"a":2,"b":{"c":[2]},"d":5}`)
	// The function has what toJSON gave; what it gives has no toJSON asked.
	writes(t, [2]string{"{a: {toJSON: function () { return 1 }}}, function (k, v) { return k ? v + 1 : v }", `{"a":2}`}, [2]string{"1, function () { return {toJSON: function () { return 'no' }} && 7 }", "7"}, [2]string{"[1], function (k, v) { return k ? {toJSON: 3, get toString() { return 1 }} && {x: undefined} && Object('q') : v }", `["q"]`},
		[2]string{"[1], function (k, v) { return k === '0' ? {toJSON: function () { return 'no' }, a: 1} : v }", `[{"a":1}]`})
	// Cut at each step: what was done ahead of it was done. (To enter the functions takes some.)
	for steps, lines := range []string{"", "", "", "a", "a", "a"} {
		r := three.run("var o = {get a() { print('a'); return [1] }, get b() { print('b'); return 1 }}; JSON.stringify(o)", steps)
		if r.How != api.Cut || strings.Join(r.Lines, "|") != lines || r.Steps != steps {
			t.Errorf("%d steps: %+v", steps, r)
		}
	}
}

// P113: which keys: an object's own enumerable ones, gathered first; of an Array all places below its length.
func TestWrittenKeys(t *testing.T) {
	writes(t,
		[2]string{"Object.create({a: 1}, {b: {value: 2, enumerable: true}, c: {value: 3}, d: {get: function () { return 4 }, enumerable: true}, e: {set: print, enumerable: true}})", `{"b":2,"d":4}`},
		[2]string{"[1, , 3]", "[1,null,3]"}, [2]string{"Array(3)", "[null,null,null]"}, [2]string{"(function (a) { a.x = 1; a[2] = 2; return a })([0])", "[0,null,2]"}, [2]string{"{length: 2, 0: 1}", `{"0":1,"length":2}`}, [2]string{"{b: 1, 2: 2, a: 3, 1: 4, 4294967295: 5, 4294967294: 6}", `{"1":4,"2":2,"4294967294":6,"b":1,"a":3,"4294967295":5}`},
	)
	three.says(t, "Array.prototype[1] = 'behind'; print(JSON.stringify([1, , 3]))", `[1,"behind",3]`)
	// What goes is undefined when its turn comes; what comes is not written.
	three.says(t, "var o = {get a() { delete this.b; this.x = 9; this.c = 'new'; return 1 }, b: 2, c: 3}; print(JSON.stringify(o))", `{"a":1,"c":"new"}`)
	three.says(t, "var a = [{toJSON: function () { a.length = 1; a[2] = 'x'; a[5] = 'y'; return 0 }}, 1, 2]; print(JSON.stringify(a))", `[0,null,"x"]`)
	three.says(t, "Object.prototype.b = 'behind'; var o = {get a() { delete this.b; return 1 }, b: 2}; print(JSON.stringify(o))", `{"a":1,"b":"behind"}`)
}

// P113: objects that lie in themselves.
func TestWrittenInItself(t *testing.T) {
	three.ends(t,
		end{src: "var o = {a: 1}; o.o = o; JSON.stringify(o)", text: typeError, steps: 3},
		end{src: "var a = [1]; a[1] = a; JSON.stringify(a)", text: typeError, steps: 3},
		end{src: "var o = {a: [{b: {}}]}; o.a[0].b.c = o.a; JSON.stringify(o)", text: typeError, steps: 5},
		end{src: "var o = {a: 1, get z() { print('no') }}; o.b = [o]; JSON.stringify({x: 1, o: o}, ['x', 'o', 'b', 'a'])", text: typeError, steps: 4 + 1 + 2 + 3 + 1}, // the keys; the empty one; x and o; in that x, o, b; its place
		end{src: "JSON.stringify(1, function () { return this })", text: typeError, steps: 4},
		end{src: "var o = {toJSON: function () { return [o] }}; JSON.stringify(o)", text: rangeError, steps: 2 * 121},
		end{src: "var o = {}, a = [o]; o.toJSON = function () { return a }; JSON.stringify(a)", text: typeError, steps: 3},
	)
	// It may be met again where it does not lie in itself; and toJSON may help.
	writes(t, [2]string{"(function (o) { return [o, o, {a: o}] })({x: []})", `[{"x":[]},{"x":[]},{"a":{"x":[]}}]`}, [2]string{"(function (o) { o.o = o; o.toJSON = function (k) { return k ? 'again' : {o: o} }; return o })({})", `{"o":"again"}`}, [2]string{"(function (o) { o.o = o; return o })({}), function (k, v) { return k ? 'again' : v }", `{"o":"again"}`}, [2]string{"(function (n) { n.n = n; return [n] })(Object(5))", "[5]"}, [2]string{"(function (o) { o.o = o; return o })({a: 1}), ['a']", `{"a":1}`}, [2]string{"(function (a) { a.a = a; return a })([1])", "[1]"})
	// Behind a TypeError all is as before.
	three.says(t, "var o = {}; o.o = o; try { JSON.stringify(o) } catch (e) { print(e.name) } delete o.o; print(JSON.stringify([o, o]))", "TypeError", "[{},{}]")
}

// P113: how deep objects may lie.
func TestWrittenDeep(t *testing.T) {
	const row = "function row(n, v, o) { for (var i = 0; i < n; i++) v = o ? {a: v} : [v]; return v } "
	for _, o := range []string{"0", "1"} {
		three.ends(t,
			end{src: row + "JSON.stringify(row(119, [], " + o + "))", steps: 1 + 119 + 120}, end{src: row + "JSON.stringify(row(120, 5, " + o + "))", steps: 1 + 120 + 121}, end{src: row + "JSON.stringify(row(120, Object(5), " + o + "))", steps: 1 + 120 + 121},
			end{src: row + "JSON.stringify(row(120, [], " + o + "))", text: rangeError, steps: 1 + 120 + 121}, end{src: row + "JSON.stringify(row(120, {}, " + o + "))", text: rangeError, steps: 1 + 120 + 121}, end{src: row + "JSON.stringify(row(500, 1, " + o + "))", text: rangeError, steps: 1 + 500 + 121},
		)
	}
	three.gives(t, [2]string{"(function () { for (var v = [], i = 0; i < 119; i++) v = [v]; return JSON.stringify(v).length + ' ' + JSON.stringify([1, v[0], v[0]]).length })()", "240 481"}, [2]string{"(function () { for (var v = 5, i = 0; i < 60; i++) v = [v]; return JSON.stringify(v, null, 1).length })()", fmt.Sprint(2*60 + 2*60 + 2*(60*59/2) + 60 + 1)})
	// That it lies in itself is asked first.
	three.ends(t,
		end{src: row + "var a = []; a[0] = row(119, a); JSON.stringify(a)", text: typeError, steps: 1 + 119 + 121}, end{src: row + "var a = []; a[0] = row(120, a); JSON.stringify(a)", text: rangeError, steps: 1 + 120 + 121},
		end{src: "JSON.stringify(1, function () { return [2] })", text: rangeError, steps: 2 * 121},
	)
}

// P113: each key that is written takes a step, also one of which nothing is written.
func TestWrittenSteps(t *testing.T) {
	three.takes(t,
		taken{"JSON.stringify()", 1}, taken{"JSON.stringify(1)", 1}, taken{"JSON.stringify([])", 1}, taken{"JSON.stringify({})", 1}, taken{"JSON.stringify([1, 2, 3])", 4}, taken{"JSON.stringify(Array(100))", 101}, taken{"JSON.stringify({a: undefined, b: print, c: [{}]})", 5}, taken{"JSON.stringify('abcdef')", 1}, taken{"JSON.stringify(Object('abc'))", 1}, taken{"JSON.stringify([Object('abc'), Object(1)])", 3},
		taken{"JSON.stringify([1, 2], function (k, v) { return v })", 6}, taken{"JSON.stringify({toJSON: function () { return [1] }})", 3}, taken{"JSON.stringify({a: 1, b: 2, c: 3}, ['b'])", 3}, taken{"JSON.stringify([1], null, '\\t')", 2},
	)
	if r := three.run("JSON.stringify(Array(4294967295))", 1<<20); r.How != api.Cut || r.Steps != 1<<20 {
		t.Errorf("%+v", r)
	}
	const deep = "function f(n) { return n ? f(n - 1) : JSON.stringify({toJSON: function () { return 1 }}) } "
	three.ends(t, end{src: deep + "print(f(147))", steps: 150, lines: []string{"1"}}, end{src: deep + "f(148)", text: rangeError, steps: 150})
	const inner = "function f(n) { return n ? {toJSON: function () { return JSON.parse(JSON.stringify(f(n - 1))) }} : 'end' } print(JSON.stringify(f(%d)))"
	three.ends(t, end{src: fmt.Sprintf(inner, 74), steps: 75*2 + 74, lines: []string{`"end"`}}, end{src: fmt.Sprintf(inner, 75), steps: 75 * 3, text: rangeError})
}

// P113: where P72's bound is asked: of a string with its quotes, of a key with what is written, of all behind the last part.
func TestWrittenBound(t *testing.T) {
	const tells = "var last = {toJSON: function () { print('last'); return 1 }}; "
	bounds := func(value, text string, lines ...string) {
		t.Helper()
		r := three.run(tells+"print(JSON.stringify("+value+").length)", many)
		if r.Text != text || strings.Join(r.Lines, " ") != strings.Join(lines, " ") {
			t.Errorf("%s\n got %s %.100q\nwant %s %q", value, r.Text, r.Lines, text, lines)
		}
	}
	x := func(n int) string { return of(n, "x") }
	bounds(x(8190), "", "8192")
	bounds(x(8191), rangeError)
	bounds("Object("+x(8191)+")", rangeError)
	bounds(of(4095, `\n`), "", "8192")
	bounds(of(4096, `\n`), rangeError)
	bounds(of(1365, `\0`), "", "8192")
	bounds(of(1366, `\0`), rangeError)
	bounds(of(4095, "\U0001F600"), "", "8192")
	bounds(of(4095, "\U0001F600")+" + 'x'", rangeError)
	bounds(of(8190, "\u00e9"), "", "8192")
	// A string that is too much is thrown as soon as it is there; a row of parts behind the last.
	bounds("["+x(8191)+", last]", rangeError)
	bounds("["+x(8188)+"]", "", "8192")
	bounds("["+x(8189)+"]", rangeError)
	bounds("["+x(8190)+", last]", rangeError, "last")
	bounds("[last, "+x(8186)+"]", "", "last", "8192")
	bounds("[last, "+x(8187)+"]", rangeError, "last")
	bounds("["+x(5000)+", "+x(5000)+", last]", rangeError, "last")
	bounds("[["+x(8189)+"], last]", rangeError)
	bounds("[["+x(8188)+"], last]", rangeError, "last")
	bounds("{a: "+x(8184)+"}", "", "8192")
	bounds("{a: "+x(8185)+"}", rangeError)
	// A key, a colon and what is written, as soon as they are there; with a blank, if there are blanks.
	bounds("{a: "+x(8187)+", last: last}", rangeError)
	bounds("{a: "+x(8186)+", last: last}", rangeError, "last")
	bounds("{a: "+x(8186)+", last: last}, null, 1", rangeError)
	bounds("{a: "+x(8185)+", last: last}, null, 1", rangeError, "last")
	bounds("{a: "+x(4000)+", b: "+x(4000)+", c: "+x(4000)+", last: last}", rangeError, "last")
	bounds("{a: {b: "+x(8182)+"}, last: last}", rangeError)
	bounds("{a: {b: "+x(8180)+"}, last: last}", rangeError, "last")
	// Of a key with its quotes, too, behind what is written, if something is.
	key := func(n int, value string) string {
		return "(function (o) { o[" + x(n) + "] = " + value + "; o.b = last; return o })({})"
	}
	bounds(key(8192, "undefined"), "", "last", "7")
	bounds(key(8192, "1"), rangeError)
	bounds(key(8191, "{toJSON: function () { print('value'); return 2 }}"), rangeError, "value")
	bounds(key(8188, "12"), rangeError)
	bounds(key(8187, "12"), rangeError, "last")
	bounds(key(8180, "1"), "", "last", "8192")
	bounds(key(8181, "1"), rangeError, "last")
	// Blanks and lines count.
	bounds("["+x(8185)+"], null, 1", "", "8192")
	bounds("["+x(8186)+"], null, 1", rangeError)
	bounds("[["+x(8178)+"]], null, 1", "", "8192")
	bounds("[["+x(8179)+"]], null, 1", rangeError)
	bounds("Array(1638)", "", "8191")
	bounds("Array(1639)", rangeError)
	bounds("Array(50000)", rangeError)
}

// P1, P72: much is written, of which nothing can be kept.
func TestWrittenMuch(t *testing.T) {
	long := of(8190, "x")
	three.ends(t, end{src: "var a = [], s = " + long + "; for (var i = 0; i < 20000; i++) a[i] = s; JSON.stringify(a)", text: rangeError, steps: 40001})
	three.ends(t, end{src: "var a = [], s = " + long + "; for (var i = 0; i < 500; i++) a = [a]; try { JSON.stringify([s, s, s, a]) } catch (e) { print(e.name) }", steps: 500 + 4 + 1 + 119, lines: []string{"RangeError"}})
}

package ecmacore_test

import (
	"strings"
	"testing"

	"ecmacore/api"
)

// P111: in which order keys are revived, and on what the function is called with what.
func TestRevived(t *testing.T) {
	const tells = see + "function f(k, v) { print(typeof k, k, see(v), see(this), arguments.length); return v } "
	three.says(t, tells+`var v = JSON.parse('{"b": [1, {"c": null}], "a": "x", "1": true}', f); print(see(v))`,
		"string 1 true {1=true,b=[1,{c=null}]2,a='x'} 2",
		"string 0 1 [1,{c=null}]2 2",
		"string c null {c=null} 2",
		"string 1 {c=null} [1,{c=null}]2 2",
		"string b [1,{c=null}]2 {1=true,b=[1,{c=null}]2,a='x'} 2",
		"string a 'x' {1=true,b=[1,{c=null}]2,a='x'} 2",
		"string  {1=true,b=[1,{c=null}]2,a='x'} {={1=true,b=[1,{c=null}]2,a='x'}} 2",
		"{1=true,b=[1,{c=null}]2,a='x'}",
	)
	for json, want := range map[string]string{"5": "5", `"a"`: "'a'", "null": "null", "[]": "[]0", "{}": "{}"} {
		three.says(t, tells+"JSON.parse('"+json+"', f)", "string  "+want+" {="+want+"} 2")
	}
	// The object at whose empty key the value is, is a new one, and nothing but that.
	three.says(t, tell+"var a = [], f = function (k, v) { a[a.length] = this; return v }; JSON.parse('1', f); JSON.parse('1', f); print(a[0] === a[1], {}.toString.call(a[0]), Object.getPrototypeOf(a[0]) === Object.prototype, Object.getOwnPropertyNames(a[0]).length, tell(a[0], ''))", "false [object Object] true 1 1:wec")
	// What it gives for the empty key is given; undefined, too, without more.
	three.says(t, "print(JSON.parse('[1]', function (k) { return k ? 2 : 'all' }), JSON.parse('[1]', function () {}), JSON.parse('5', function (k, v) { return v * 2 }), JSON.parse('{}', print))", " [object Object]", "all undefined 10 undefined")
	three.says(t, "JSON.parse('[[]]', function (k, v) { print(k, k === '' ? this[''] === v : this[k] === v, this.length); return [] })", "0 true 1", " true undefined")
	// Functions of all sorts.
	three.says(t, "JSON.parse('[1]', print); JSON.parse('[1]', print.bind(null, 'x')); print(JSON.parse('[1, 2]', Array).length, JSON.parse('3', Object) == '')", "0 1", " ", "x 0 1", "x  ", "2 true")
	// What is no function counts for nothing, and is not asked.
	for _, v := range []string{"undefined", "null", "5", "'f'", "{}", "[]", "/a/", "Object.create(print)", "{toString: 0, valueOf: 0, get call() { print('no') }}"} {
		three.ends(t, end{src: "var v = JSON.parse('{\"a\": [1, 2]}', " + v + "); print(v.a.length)", lines: []string{"2"}})
	}
}

// P111: what is undefined goes, all else is defined, with all flags.
func TestRevivedDefined(t *testing.T) {
	three.says(t, see+`print(see(JSON.parse('{"a": 1, "b": [1, 2, 3], "c": {"a": 1}}', function (k, v) { return k == 'a' || k == '1' ? undefined : v })))`, "{b=[1,3]3,c={}}")
	three.says(t, see+`print(see(JSON.parse('[1, [2, 3], {"x": 4}]', function (k, v) { return typeof v == 'number' ? v + 1 : v })), see(JSON.parse('[1, 2, 3]', function (k, v) { return k ? undefined : v })), see(JSON.parse('{"a": null}', function (k, v) { return k ? '' : v })))`, "[2,[3,4]2,{x=5}]3 []3 {a=''}")
	// Null, false, NaN and the empty string are no undefined.
	three.says(t, see+`print(see(JSON.parse('[1, 2, 3, 4, 5]', function (k, v) { return [null, false, NaN, '', 0][k] === undefined ? v : [null, false, NaN, '', 0][k] })))`, "[null,false,NaN,'',0]5")
	// A property that is told otherwise meanwhile gets all flags, if it may.
	three.says(t, tell+`var v = JSON.parse('{"a": 1, "b": 2}', function (k, v) { if (k == 'a') Object.defineProperty(this, 'b', {writable: false, enumerable: true, value: 7}); return v }); print(tell(v, 'a'), tell(v, 'b'))`, "1:wec 7:wec")
	three.says(t, tell+`var v = JSON.parse('{"a": 1, "b": 2}', function (k, v) { if (k == 'a') Object.defineProperty(this, 'b', {get: function () { print('get'); return 8 }, set: function () { print('no') }}); return v }); print(tell(v, 'b'), tell(v, 'a'))`, "get", "8:wec 1:wec")
	// It is defined, not Put: what stands behind is not asked.
	three.says(t, "Object.defineProperty(Object.prototype, 'x', {set: function () { print('no') }, get: function () { return 'behind' }}); var v = JSON.parse('{\"x\": 1, \"y\": 2}', function (k, v) { if (k == 'x') { delete this.x } return v }); print(v.x, Object.keys(v)); v = JSON.parse('{\"y\": 0, \"x\": 1}', function (k, v) { if (k == 'y') { delete this.x } return k == 'x' ? v + '!' : v }); print(v.x, Object.keys(v))", "1 y,x", "behind! y,x")
}

// P111: what may not be is left as it is, and nothing is thrown.
func TestRevivedRefused(t *testing.T) {
	const source = `'{"a": 1, "b": 2, "c": 3}'`
	const list = "'[1, 2, 3]'"
	for _, c := range []struct{ json, first, rest, want string }{
		{source, "Object.freeze(this)", "9", "{a=1!,b=2!,c=3!}"}, {source, "Object.freeze(this)", "undefined", "{a=1!,b=2!,c=3!}"},
		{source, "Object.seal(this)", "9", "{a=1!,b=2!,c=3!}"}, {source, "Object.seal(this)", "undefined", "{a=1!,b=2!,c=3!}"},
		{source, "Object.preventExtensions(this)", "9", "{a=9,b=9,c=9}"}, {source, "Object.preventExtensions(this)", "undefined", "{}"},
		{source, "delete this.b", "9", "{a=9,c=9,b=9}"}, {source, "delete this.b; Object.preventExtensions(this)", "9", "{a=9,c=9}"}, {source, "delete this.b", "undefined", "{}"},
		{source, "Object.defineProperty(this, 'b', {configurable: false})", "9", "{a=9,b=2!,c=9}"}, {source, "Object.defineProperty(this, 'b', {configurable: false})", "undefined", "{b=2!}"},
		{source, "Object.defineProperty(this, 'b', {configurable: false, writable: false})", "9", "{a=9,b=2!,c=9}"},
		{list, "Object.freeze(this)", "9", "[1!,2!,3!]3"}, {list, "Object.freeze(this)", "undefined", "[1!,2!,3!]3"}, {list, "Object.preventExtensions(this)", "undefined", "[]3"},
		{list, "this.length = 1", "9", "[9,9,9]3"}, {list, "this.length = 1; Object.defineProperty(this, 'length', {writable: false})", "9", "[9]1"}, {list, "this.length = 1", "undefined", "[]1"},
		{list, "Object.defineProperty(this, 1, {configurable: false})", "undefined", "[2!]3"},
	} {
		three.says(t, see+"var n = 0; print(see(JSON.parse("+c.json+", function (k, v) { if (!k) return v; if (!n++) { "+c.first+" } return "+c.rest+" })), n)", c.want+" 3")
	}
}

// P111: which keys: those that there are when an object's turn comes; of an Array all places below its length.
func TestRevivedKeys(t *testing.T) {
	const log = see + "var s = ''; function f(k, v) { s += k + '=' + see(v) + ';'; return v } "
	// What goes is still asked: undefined; what comes is not, but within what comes it is.
	three.says(t, log+`JSON.parse('{"a": 1, "b": {"c": 2}, "d": 3}', function (k, v) { if (k == 'a') { delete this.d; this.e = 4; this.b = {x: [5]} } return f.call(this, k, v) }); print(s)`, "a=1;0=5;x=[5]1;b={x=[5]1};d=undefined;={a=1,b={x=[5]1},e=4};")
	three.says(t, log+`JSON.parse('[1, [2], 3]', function (k, v) { if (k === '0' && this.length == 3) { this.length = 1; this[1] = {y: 6}; this[5] = 7 } return f.call(this, k, v) }); print(s)`, "0=1;y=6;1={y=6};2=undefined;=[1,{y=6},7]6;")
	// Own and enumerable ones alone; of an Array places alone, there or behind it.
	three.says(t, log+`JSON.parse('[0, 1]', function (k, v) { if (k === '0' && this.length == 2) { this[1] = Object.create({h: 1}, {p: {value: 2, enumerable: true}, q: {value: 3}}) } return f.call(this, k, v) }); print(s)`, "0=0;p=2;1=[object Object]{p=2!,q=3!};=[0,[object Object]{p=2!,q=3!}]2;")
	three.says(t, log+`Array.prototype[1] = 'behind'; JSON.parse('[0, 1, 2]', function (k, v) { if (k === '0') { delete this[1]; this.extra = 1 } return f.call(this, k, v) }); delete Array.prototype[1]; print(s)`, "0=0;1='behind';2=2;=[0,'behind',2,1]3;")
	// Objects of all classes that the function lets in.
	three.says(t, log+`JSON.parse('[0, 1]', function (k, v) { if (k === '0' && !v) this[1] = Object('hi'); return f.call(this, k, v) }); print(s)`, "0=0;0='h';1='i';1=[object String]{0='h'!,1='i'!,length=2!};=[0,[object String]{0='h'!,1='i'!,length=2!}]2;")
	three.says(t, `JSON.parse('[0, 1]', function (k, v) { print(k, typeof v); if (k === '0') { var g = function () {}; g.own = 5; this[1] = g } return v })`, "0 number", "own number", "1 function", " object")
	three.says(t, `JSON.parse('[0, 1]', function (k, v) { print(k, typeof v); if (k === '0' && v === 0) this[1] = (function () { return arguments })(7, 8); return v })`, "0 number", "0 number", "1 number", "1 object", " object")
	// A property of functions is got once, ahead of what is in it.
	three.says(t, `JSON.parse('{"a": 1, "b": 2}', function (k, v) { print(k); if (k == 'a') Object.defineProperty(this, 'b', {get: function () { print('get'); return [1] }}); return v })`, "a", "get", "0", "b", "")
}

// P111: each key takes a step, but for the empty one at first; what is thrown goes through, and what was done stays done.
func TestRevivedSteps(t *testing.T) {
	three.takes(t,
		taken{"JSON.parse('5', Object)", 0}, taken{"JSON.parse('[]', Object)", 0}, taken{"JSON.parse('[1, 2, 3]', Object)", 3}, taken{`JSON.parse('{"a": 1, "b": {"c": 1}}', Object)`, 3},
		taken{"JSON.parse('[1, [2, 3], {\"x\": 4}]', function (k, v) { return v })", 13}, taken{"JSON.parse('5', function () {})", 1}, taken{"JSON.parse('[[], [], [[]]]', Object.bind(1))", 4},
		taken{`var n = 0; JSON.parse('[1, 2]', function (k, v) { if (!n++) this.length = 100; return v })`, 5},
		taken{`var n = 0; JSON.parse('[1, [2]]', function (k, v) { if (!n++) this[1].length = 10; return v })`, 2 + 10 + 13},
	)
	for steps, lines := range []string{"", "", "0", "0", "0 1"} {
		r := three.run("JSON.parse('[1, 2, 3]', function (k) { print(k) })", steps)
		if r.How != api.Cut || strings.Join(r.Lines, " ") != lines || r.Steps != steps {
			t.Errorf("%d steps: %+v", steps, r)
		}
	}
	if r := three.run("JSON.parse('[1, 2]', function (k, v) { if (v) this[1] = Array(4294967295); return v })", many); r.How != api.Cut || r.Steps != many {
		t.Errorf("%+v", r)
	}
	three.ends(t,
		end{src: "var held; try { JSON.parse('[1, 2, 3]', function (k, v) { held = this; if (k === '1') throw 'up'; return v * 10 }) } catch (e) { print(e, held) }", steps: 2 + 2 + 3, lines: []string{"up 10,2,3"}},
		end{src: "JSON.parse('[1]', function () { null.x })", text: typeError, steps: 2},
		end{src: "JSON.parse('{\"a\": 1, \"b\": 2}', function (k, v) { print(k); if (k == 'a') Object.defineProperty(this, 'b', {get: function () { throw 7 }}); return v })", text: "number 7", steps: 2 + 1 + 1, lines: []string{"a"}},
	)
	// The function is a call within parse's.
	const deep = "function f(n) { return n ? f(n - 1) : JSON.parse('[1]', function (k, v) { return v }).length } "
	three.ends(t, end{src: deep + "print(f(147))", steps: 151, lines: []string{"1"}}, end{src: deep + "f(148)", text: rangeError, steps: 150})
}

// P111: how deep keys may lie that the function lets in.
func TestRevivedDeep(t *testing.T) {
	nested := "[" + strings.Repeat("[", 119) + strings.Repeat("]", 119) + "]"
	three.takes(t, taken{"JSON.parse('" + nested + "', Object)", 119})
	// row(n): n Arrays, each in the one ahead. The outermost comes in where it lies 1 deep, so the innermost has nothing in it, and lies n deep.
	const row = "function row(n, v) { for (var i = 0; i < n; i++) v = [v]; return v } function f(v) { return JSON.parse('[0, 1]', function (k, x) { if (k === '0' && x === 0) this[1] = v; return x }) } "
	const made = 3*120 + 1 // entering f and row, its rounds; keys and calls, of 0, 1 and the empty one, and for each Array within
	three.takes(t, taken{row + "f(row(119, []))", made + 3})
	three.ends(t,
		end{src: row + "f(row(120, []))", text: rangeError, steps: 2 + 120 + 3 + 120},
		end{src: row + "f(row(119, [5]))", text: rangeError, steps: 2 + 119 + 3 + 120},
		// One that lies in itself.
		end{src: "JSON.parse('[0, 1]', function (k, v) { if (k === '0') this[1] = this; return v })", text: rangeError, steps: 3*120 + 1},
		end{src: "var n = 0; try { JSON.parse('{\"a\": 0}', function (k, v) { return v }); JSON.parse('{\"a\": 0, \"b\": 1}', function (k, v) { n++; this.b = this; return v }) } catch (e) { print(e.name, n) }", steps: 3 + 3*120 + 1, lines: []string{"RangeError 120"}},
	)
}

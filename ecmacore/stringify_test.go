package ecmacore_test

import (
	"strings"
	"testing"

	"ecmacore/api"
)

// writes: what stringify gives for arguments.
func writes(t *testing.T, cases ...[2]string) {
	t.Helper()
	for _, c := range cases {
		three.says(t, "print(JSON.stringify("+c[0]+"))", c[1])
	}
}

// P112: what is written, and undefined, if nothing is.
func TestStringify(t *testing.T) {
	writes(t,
		[2]string{"1", "1"}, [2]string{"'a'", `"a"`}, [2]string{"null", "null"}, [2]string{"true", "true"}, [2]string{"false", "false"}, [2]string{"[]", "[]"}, [2]string{"{}", "{}"},
		[2]string{"{a: [1, {b: 'c'}], d: null}", `{"a":[1,{"b":"c"}],"d":null}`}, [2]string{"{b: 1, a: 2, 1: 3, 0: 4}", `{"0":4,"1":3,"b":1,"a":2}`}, [2]string{"[[], [[]], {}]", "[[],[[]],{}]"}, [2]string{"{'': 1, ' ': 2}", `{"":1," ":2}`},
		[2]string{"undefined", "undefined"}, [2]string{"print", "undefined"}, [2]string{"function () {}", "undefined"}, [2]string{"", "undefined"},
	)
	three.gives(t, [2]string{"typeof JSON.stringify(), typeof JSON.stringify(null), typeof JSON.stringify(1), JSON.stringify(1, null, null, 5)", "undefined string string 1"})
	// One new object, at whose empty key the first is.
	three.says(t, tell+"var a = [], o = {x: 1}, f = function (k, v) { if (k === '') a[a.length] = this; return v }; JSON.stringify(o, f); JSON.stringify(5, f); print(a[0] === a[1], {}.toString.call(a[0]), Object.getPrototypeOf(a[0]) === Object.prototype, Object.getOwnPropertyNames(a[0]).length, a[0][''] === o, tell(a[1], ''))", "false [object Object] true 1 true 5:wec")
	three.says(t, "Object.defineProperty(Object.prototype, '', {set: function () { print('no') }, get: function () { print('no') }}); print(JSON.stringify([1]))", "[1]")
	if got := live(t, "JSON.stringify([1, 'a', {}])", ""); got != 3 {
		t.Errorf("%d objects", got)
	}
	if got := live(t, "JSON.stringify('a'); JSON.stringify()", ""); got != 2 {
		t.Errorf("%d objects", got)
	}
}

// P112: the second as a function; what is neither that nor an Array counts for nothing.
func TestStringifyFunction(t *testing.T) {
	three.says(t, see+"JSON.stringify({b: [1, 'x'], a: undefined, c: null}, function (k, v) { print(typeof k, k, see(v), see(this), arguments.length); return v })",
		"string  {b=[1,'x']2,a=undefined,c=null} {={b=[1,'x']2,a=undefined,c=null}} 2",
		"string b [1,'x']2 {b=[1,'x']2,a=undefined,c=null} 2", "string 0 1 [1,'x']2 2", "string 1 'x' [1,'x']2 2",
		"string a undefined {b=[1,'x']2,a=undefined,c=null} 2", "string c null {b=[1,'x']2,a=undefined,c=null} 2")
	writes(t,
		[2]string{"{a: 1, b: [2, 3]}, function (k, v) { return k == 'a' ? undefined : typeof v == 'number' ? v * 2 : v }", `{"b":[4,6]}`}, [2]string{"[1, 2, 3], function (k, v) { return k === '1' ? undefined : v }", "[1,null,3]"},
		[2]string{"1, function (k) { return k ? 7 : [2, {a: 3}] }", "[7,7]"}, [2]string{"[1], function () {}", "undefined"}, [2]string{"[1], function (k, v) { return k ? print : v }", "[null]"},
		[2]string{"{a: 1}, function (k, v) { return k ? Object('s') : v }", `{"a":"s"}`}, [2]string{"{a: 1}, Object.bind(0, 5)", "5"}, [2]string{"{a: 1}, (function (x, k, v) { return k ? x : v }).bind(null, 8)", `{"a":8}`}, [2]string{"undefined, function (k, v) { return v === undefined ? 'u' : v }", `"u"`},
	)
	for _, v := range []string{"undefined", "null", "5", "'a'", "true", "{}", "{length: 1, 0: 'a'}", "/a/", "Object.create(print)", "Object.create(['a'])", "Object('a')", "{get length() { print('no') }}"} {
		three.ends(t, end{src: "print(JSON.stringify({a: 1, b: [2]}, " + v + "))", steps: 4, lines: []string{`{"a":1,"b":[2]}`}})
	}
	writes(t, [2]string{"{a: 1, b: [2]}, (function () { return arguments })('a')", `{"a":1,"b":[2]}`})
}

// P112: the second as an Array: the only keys, as they are told there; of Arrays all places are written.
func TestStringifyKeys(t *testing.T) {
	const o = "{a: 1, b: {a: 2, c: 3, 1: 5}, 1: 4, c: [6, {a: 7, b: 8, c: 9}]}"
	writes(t,
		[2]string{o + ", ['b', 'a']", `{"b":{"a":2},"a":1}`}, [2]string{o + ", ['a', 'b', 'a', 'b', 'a']", `{"a":1,"b":{"a":2}}`}, [2]string{o + ", [1, 'a', '1']", `{"1":4,"a":1}`}, [2]string{o + ", ['a', '1']", `{"a":1,"1":4}`},
		[2]string{o + ", ['c', 'b']", `{"c":[6,{"c":9,"b":8}],"b":{"c":3}}`}, [2]string{o + ", []", "{}"}, [2]string{"[" + o + ", 1], []", "[{},1]"}, [2]string{o + ", ['x', 'toString', 'length']", "{}"}, [2]string{"5, []", "5"},
		[2]string{o + ", [Object('a'), Object(1), Object(1), Object('a'), new String('1')]", `{"a":1,"1":4}`}, [2]string{o + ", [true, null, undefined, {}, ['a'], print, /a/, Object(true), , 'a']", `{"a":1}`},
		[2]string{"{NaN: 1, '-1': 2, 0: 3, '1e+21': 4, Infinity: 5, '0.5': 6, '-0': 7}, [NaN, -1, -0, 1e21, 1 / 0, 0.5]", `{"NaN":1,"-1":2,"0":3,"1e+21":4,"Infinity":5,"0.5":6}`}, [2]string{"{'': 1, a: 2}, ['', 'a']", `{"":1,"a":2}`},
		// Also those that are behind it, or not enumerable.
		[2]string{"Object.create({a: 1}, {b: {value: 2}}), ['a', 'b', 'c']", `{"a":1,"b":2}`}, [2]string{"[1, 2], ['length', 0]", "[1,2]"}, [2]string{"{x: Object.create([3, 4])}, ['x', 0, 1, 'length']", `{"x":{"0":3,"1":4,"length":2}}`}, [2]string{"{x: /a/g}, ['x', 'source', 'global']", `{"x":{"source":"a","global":true}}`},
	)
	// The keys are told once, ahead of all, by Get of each place; objects as strings, which is their toString, or valueOf.
	const k = "var k = ['a', 'b']; Object.defineProperty(k, 1, {get: function () { print('get'); return Object('c') }}); "
	three.says(t, k+"print(JSON.stringify({a: {c: 1, a: 2}, b: 3, c: 4}, k))", "get", `{"a":{"a":2,"c":1},"c":4}`)
	three.says(t, "function over(o, name, x) { o[name] = function () { print(name); return x }; return o } print(JSON.stringify({a: 1, b: 2, c: 3, d: 4, 7: 5}, [over(Object('a'), 'toString', 'b'), over(Object('a'), 'valueOf', 'c'), over(Object(7), 'toString', 'd'), over(Object(7), 'valueOf', 9), over(over(Object(8), 'toString', {}), 'valueOf', 'c')]))", "toString", "toString", "toString", "valueOf", `{"b":2,"a":1,"d":4,"7":5,"c":3}`)
	three.says(t, "Array.prototype[1] = 'b'; print(JSON.stringify({a: 1, b: 2}, ['a', , 'a']))", `{"a":1,"b":2}`)
	three.says(t, "var k = ['a', 'b'], o = {get a() { k[0] = 'x'; k.length = 1; return {a: 1, b: 2, x: 3} }, b: 4}; print(JSON.stringify([o, {x: 5, b: 6}], k))", `[{"a":{"a":1,"b":2},"b":4},{"b":6}]`)
	three.ends(t,
		end{src: odd + "JSON.stringify({get a() { print('no') }}, [{}, Object(1), (function () { var n = Object(1); n.toString = n.valueOf = 0; return n })(), Object('b')])", text: typeError, steps: 4},
		end{src: "JSON.stringify(1, [1, (function () { var n = Object(1); n.toString = function () { throw 'up' }; return n })()], {get x() { print('no') }})", text: "string up", steps: 4},
	)
	three.takes(t, taken{"JSON.stringify(1, [1, 2, 3])", 4}, taken{"JSON.stringify(1, Array(50))", 51}, taken{"JSON.stringify({}, ['a', 'a', 'b'])", 6}, taken{"JSON.stringify([{}, {}], ['a', {}])", 2 + 1 + 2 + 2}, taken{"JSON.stringify(1, [])", 1})
	if r := three.run("JSON.stringify({toJSON: function () { print('no') }}, Array(4294967295))", many); r.How != api.Cut || r.Steps != many || r.Lines != nil {
		t.Errorf("%+v", r)
	}
}

// P112: the third as blanks.
func TestStringifyBlanks(t *testing.T) {
	for third, blanks := range map[string]string{
		"1": " ", "2": "  ", "10": "          ", "11": "          ", "1e9": "          ", "Infinity": "          ", "4294967297": "          ", "1.99": " ", "Object(3)": "   ", "'-'": "-", "'ab'": "ab", "'abcdefghij'": "abcdefghij", "'abcdefghijk'": "abcdefghij", "Object('xy')": "xy", "'\\t'": "\t", "' '": " ", "'\\n'": "\n",
		"0": "", "0.99": "", "-0": "", "-1": "", "-5e9": "", "-Infinity": "", "NaN": "", "''": "", "Object('')": "", "Object(0)": "", "undefined": "", "null": "", "true": "", "Object(true)": "", "{}": "", "[2]": "", "['a']": "", "print": "", "/a/": "", "{valueOf: 0, toString: 0}": "", "{valueOf: function () { print('no') }}": "",
	} {
		want := `{"a":[1,{}],"b":{"c":[]}}`
		if blanks != "" {
			want = strings.ReplaceAll("{\n~\"a\": [\n~~1,\n~~{}\n~],\n~\"b\": {\n~~\"c\": []\n~}\n}", "~", blanks)
		}
		three.ends(t, end{src: "print(JSON.stringify({a: [1, {}], b: {c: []}}, null, " + third + "))", steps: 6, lines: []string{want}})
	}
	// Units are counted, not letters; halves of neighbours find each other.
	three.says(t, "var s = JSON.stringify([1], null, '\\ud83d\\ude00\\ud83d\\ude00\\ud83d\\ude00\\ud83d\\ude00\\ud83d\\ude00\\ud83d\\ude00'), h = JSON.stringify([[1]], null, '\\ude00\\ud83d'); print(s.length, s === '[\\n\\ud83d\\ude00\\ud83d\\ude00\\ud83d\\ude00\\ud83d\\ude00\\ud83d\\ude001\\n]', JSON.stringify([1], null, 'abcdefghi\\ud83d\\ude00') === '[\\nabcdefghi\\ud83d1\\n]', h.length, h === '[\\n\\ude00\\ud83d[\\n\\ude00\\ud83d\\ude00\\ud83d1\\n\\ude00\\ud83d]\\n]', h.charCodeAt(7) === 0xd83d, h.charCodeAt(8) === 0xde00)", "15 true true 17 true true true")
	// Objects as a number by valueOf, as a string by toString; behind the second, ahead of the first.
	three.says(t, "function over(o, f, x) { o[f] = function () { print(f); return x }; return o } print(JSON.stringify([1], null, over(Object(1), 'valueOf', 3)).length, JSON.stringify([1], null, over(Object('a'), 'toString', 'bcd')).length, JSON.stringify([1], null, over(Object(1), 'toString', 3)).length, JSON.stringify([1], null, over(Object('a'), 'valueOf', 'bcd')).length, JSON.stringify([1], null, over(Object('a'), 'toString', 5)).length)", "valueOf", "toString", "toString", "8 8 6 6 6")
	three.says(t, "function over(o, f, x) { o[f] = function () { print(f, x); return x }; return o } JSON.stringify({get a() { print('a') }}, [over(Object('k'), 'toString', 'a')], over(Object(1), 'valueOf', 3))", "toString a", "valueOf 3", "a")
	three.ends(t,
		end{src: "var n = Object(1); n.valueOf = function () { print('asked'); throw 5 }; JSON.stringify({toJSON: print}, ['a'], n)", text: "number 5", steps: 2, lines: []string{"asked"}},
		end{src: "var n = Object('a'); n.toString = n.valueOf = 0; JSON.stringify({toJSON: print}, null, n)", text: typeError},
	)
	if got := live(t, "var n = Object('a'); n.toString = n.valueOf = 0; JSON.stringify(1, null, n)", typeError); got != 2 {
		t.Errorf("%d objects", got)
	}
}

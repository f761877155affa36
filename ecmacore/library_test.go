package ecmacore_test

import (
	"reflect"
	"strings"
	"testing"

	"ecmacore/api"
	"ecmacore/ecmacore"
)

// P86: the global object, and print.
func TestGlobal(t *testing.T) {
	gives(t,
		[2]string{"NaN, Infinity, undefined, typeof print, print.length, this.print === print, print", "NaN Infinity undefined function 1 true function () { [code] }"},
		[2]string{"NaN !== this.NaN, Infinity === 1 / 0, undefined === void 0, 'undefined' in this, typeof Object, typeof Array, typeof String, typeof Math, typeof JSON, typeof parseInt", "true true true true undefined undefined undefined undefined undefined undefined"},
	)
	says(t, "print(); print(''); print('', ''); print(1, 'a', true, null, undefined, [1, 2], {}); print('a\\nb')", "", "", " ", "1 a true null undefined 1,2 [object Object]", "a\nb")
	says(t, "var p = print; print = 1; p(print); this.print = p; print(2); print(p(3) === undefined)", "1", "2", "3", "true")
	fails(t, typeError, "NaN = 1", "Infinity = 1", "undefined = 1", "delete this.NaN", "delete this.Infinity", "delete this.undefined", "print({toString: 0, valueOf: 0})", "print(1, 2, {toString: 0, valueOf: 0})")
	ends(t, end{src: "print([1], [2, 3], [4])", steps: 4, lines: []string{"1 2,3 4"}}, end{src: odd + "print(two, bad, two)", text: typeError, steps: 2})
}

// P86: what a run prints has a bound: each argument counts one more than its units.
func TestPrintBound(t *testing.T) {
	s := "var s = " + of(8191, "a") + "; "
	line := strings.Repeat("a", 8191)
	lines := strings.Split(strings.Repeat(line+"\n", 32)[:32*8192-1], "\n")
	for _, c := range []struct {
		src  string
		want api.Result
	}{
		{s + "for (var i = 0; i < 32; i++) print(s); print()", api.Result{Lines: append(lines[:32:32], ""), How: api.Ended, Steps: 32}},
		{s + "for (var i = 0; i < 32; i++) print(s); print(); print('')", api.Result{Lines: append(lines[:32:32], ""), How: api.Cut, Steps: 32}},
		{s + "for (;;) print(s)", api.Result{Lines: lines, How: api.Cut, Steps: 33}},
		{s + "print(" + strings.Repeat("s,", 31) + "s)", api.Result{Lines: []string{strings.Join(lines, " ")}, How: api.Ended}},
		{s + "print(" + strings.Repeat("s,", 32) + "'')", api.Result{How: api.Cut}},
		{s + "print(1); print(" + strings.Repeat("s,", 31) + "s); print(2)", api.Result{Lines: []string{"1"}, How: api.Cut}},
		{"var s = " + of(4096, "\U0001F600") + "; for (;;) print(s)", api.Result{Lines: strings.Split(strings.Repeat(strings.Repeat("\U0001F600", 4096)+"\n", 31)[:31*(4*4096+1)-1], "\n"), How: api.Cut, Steps: 32}},
	} {
		if r := run(c.src, many); !reflect.DeepEqual(r, c.want) {
			t.Errorf("%.40s ..: %d lines, %d, %d steps", c.src[len(s):], len(r.Lines), r.How, r.Steps)
		}
	}
	// Each run has its own.
	w := ecmacore.New(0)
	for range 3 {
		if r := w.Run(s+"for (var i = 0; i < 32; i++) print(s)", api.Limits{Steps: many}); r.How != api.Ended {
			t.Errorf("%d lines, %d", len(r.Lines), r.How)
		}
	}
}

// P87: errors.
func TestErrors(t *testing.T) {
	for _, name := range []string{"Error", "RangeError", "ReferenceError", "SyntaxError", "TypeError"} {
		named := func(expression, want string) {
			t.Helper()
			gives(t, [2]string{strings.ReplaceAll(expression, "NAME", name), strings.ReplaceAll(want, "NAME", name)})
		}
		named("new NAME, NAME(), new NAME('m'), NAME('m'), new NAME(undefined), new NAME(null), NAME(5), NAME([1, 2]), NAME('')", "NAME NAME NAME: m NAME: m NAME NAME: null NAME: 5 NAME: 1,2 NAME")
		named("typeof NAME, NAME.length, NAME.prototype.name, NAME.prototype.message === '', NAME.prototype.constructor === NAME, NAME.prototype", "function 1 NAME true true NAME")
		named("new NAME() instanceof NAME, NAME('a') instanceof Error, NAME('a').message, 'message' in NAME(), delete NAME('a').message", "true true a true true")
		named("{}.toString === NAME().toString, NAME(1).valueOf() instanceof NAME, NAME === this.NAME, 'prototype' in NAME", "false true true true")
		fails(t, typeError, name+".prototype = 1", "delete "+name+".prototype", name+".length = 2", name+"({toString: 0, valueOf: 0})")
		ends(t, end{src: "new " + name + "([1, 2], {toString: 0, valueOf: 0})", steps: 2}, end{src: "throw new " + name + "('m')", text: "Error " + name + " m"}, end{src: "throw " + name + "()", text: "Error " + name + " "})
	}
}

// P87: Error's toString.
func TestErrorText(t *testing.T) {
	const o = "var t = Error.prototype.toString; "
	says(t, o+"print({toString: t}, {toString: t, name: 'n'}, {toString: t, message: 'm'}, {toString: t, name: 'n', message: 'm'})", "Error n Error: m n: m")
	says(t, o+"print({toString: t, name: '', message: 'm'}, {toString: t, name: 'n', message: ''}, {toString: t, name: '', message: ''}, {toString: t, name: undefined, message: undefined}, {toString: t, name: null, message: 0}, {toString: t, name: [1, 2], message: [3]})", "m n  Error null: 0 1,2: 3")
	fails(t, typeError, o+"t()", o+"({toString: t, name: {toString: 0, valueOf: 0}}) + ''")
	ends(t,
		end{src: o + "[{toString: t, name: [1, 2], message: {toString: 0, valueOf: 0}}] + ''", text: typeError, steps: 3},
		end{src: o + "[{toString: t, name: {toString: 0, valueOf: 0}, message: [1, 2]}] + ''", text: typeError, steps: 1},
	)
	says(t, "Error.prototype.name = 'N'; print(new Error('a'), new TypeError('b')); delete TypeError.prototype.name; print(TypeError('c'))", "N: a TypeError: b", "N: c")
}

// P88: toString and valueOf of objects and functions; toString and join of Arrays.
func TestObjectsAndArrays(t *testing.T) {
	const f = "var t = {}.toString, v = {}.valueOf; "
	says(t, f+"print([t(), {t: t}.t()]); var a = [], e = Error(), r = /a/; a.t = e.t = r.t = print.t = Error.prototype.t = t; print(a.t(), e.t(), r.t(), print.t(), Error.prototype.t())", "[object Undefined],[object Object]", "[object Array] [object Error] [object RegExp] [object Function] [object Error]")
	says(t, f+"var o = {}; print(o.valueOf() === o, print.valueOf() === print, this.valueOf() === this)", "true true true")
	says(t, "print(print.toString(), Error.toString(), Error.prototype.toString.toString())", "function () { [code] } function () { [code] } function () { [code] }")
	fails(t, typeError, f+"v()", "({toString: print.toString}) + ''", "print.toString === 1 || ({t: print.toString}).t()")
	says(t, "print([1, 2].toString(), {toString: [].toString}, {toString: [].toString, join: 5}, {toString: [].toString, join: print}); var e = Error(); e.toString = [].toString; print(e)", "", "1,2 [object Object] [object Object] undefined", "[object Error]")
	says(t, "var a = [1, 2]; a.join = 0; print(a); a.join = print; print(a + 'x')", "[object Array]", "", "undefinedx")
	gives(t,
		[2]string{"[1, 2, 3].join(), [1, 2, 3].join(undefined), [1, 2, 3].join('-'), [1, 2].join(''), [1, 2].join(null), [1, 2].join(0), [1, 2].join([3, 4])", "1,2,3 1,2,3 1-2-3 12 1null2 102 13,42"},
		[2]string{"[].join(), [null].join(), [undefined, null, , 1].join(), [true, 'a', [1, [2, 3]], {}].join(';')", "  ,,,1 true;a;1,2,3;[object Object]"},
		[2]string{"{join: [].join, length: 2, 0: 'a', 1: 'b', 2: 'c'}.join(), {join: [].join, length: '1', 0: 7}.join(), {join: [].join, 0: 7}.join(), {join: [].join, length: 4294967297, 0: 8}.join(), {join: [].join, length: 1.9, 0: 9}.join()", "a,b 7  8 9"},
		[2]string{"{join: [].join, length: -4294967294, 0: 1, 1: 2}.join(), ['\\ud83d', '\\ude00'].join(''), ['\\ud83d', '\\ude00'].join('').length, ['\\ud83d', '\\ude00'].join(), [].join.length, [].toString.length", "1,2 \U0001F600 2 \xed\xa0\xbd,\xed\xb8\x80 1 0"},
	)
	fails(t, typeError, "var j = [].join; j()", "var s = [].toString; s()", "[1].join({toString: 0, valueOf: 0})")
	ends(t,
		end{src: odd + "var o = {join: [].join, length: two, 0: 1}; print(o.join(bad))", text: typeError, steps: 2},
		end{src: odd + "var o = {join: [].join, length: bad}; o.join(two)", text: typeError, steps: 0},
		end{src: odd + "[1, 2, 3].join(two)", steps: 5}, end{src: odd + "[1, bad, 3].join()", text: typeError, steps: 2}, end{src: "[, , ,].join()", steps: 3},
		end{src: odd + "[0, two, bad].join(two)", text: typeError, steps: 7},
	)
}

// P89: strings, numbers, booleans.
func TestBoxes(t *testing.T) {
	gives(t,
		[2]string{"'ab'.toString(), 'ab'.valueOf(), ''.toString() === '', 'a'.valueOf.length, 'a'.toString.length", "ab ab true 0 0"},
		[2]string{"(255).toString(), (255).toString(undefined), (255).toString(16), (255).toString(2), (-255).toString(36), (0.5).toString(2), (255).toString('8'), (255).toString([16]), (255).toString(10.9), (1e21).toString(10)", "255 255 ff 11111111 -73 0.1 377 ff 255 1e+21"},
		[2]string{"NaN.toString(2), Infinity.toString(36), (0).toString(2), (-0).toString(), (5).valueOf() === 5, (5).toString.length, (5).valueOf.length, 1 / (-0).valueOf()", "NaN Infinity 0 0 true 1 0 -Infinity"},
		[2]string{"true.toString(), false.toString(), true.valueOf() === true, true.toString.length, true.valueOf.length", "true false true 0 0"},
	)
	fails(t, rangeError, "(5).toString(1)", "(5).toString(37)", "(5).toString(0)", "(5).toString(-10)", "(5).toString(NaN)", "(5).toString(null)", "(5).toString(Infinity)", "(5).toString(-Infinity)", "(5).toString(1e30)", "(5).toString(4294967306)", "NaN.toString(1)", "(5).toString('x')", "(5).toString(1.99)", "(5).toString({})")
	fails(t, typeError, "({t: 'a'.toString}).t()", "({t: 'a'.valueOf}).t()", "({t: (5).toString}).t()", "({t: (5).valueOf}).t()", "({t: true.toString}).t()", "({t: true.valueOf}).t()", "var t = 'a'.toString; t()", "+{valueOf: true.valueOf}", "(5).toString({valueOf: 0, toString: 0})", "({t: (5).toString}).t(99)")
	ends(t, end{src: odd + "(5).toString(two)", text: rangeError, steps: 2}, end{src: odd + "o.t = (5).toString; o.t(two)", text: typeError, steps: 0})
}

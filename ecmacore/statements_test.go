package ecmacore_test

import (
	"fmt"
	"reflect"
	"strings"
	"testing"

	"ecmacore/api"
	"ecmacore/ecmacore"
)

// P83: variables are there from the beginning on, as properties of the global object.
func TestProgram(t *testing.T) {
	says(t, "print(x, 'x' in this); var x = 1; print(x, this.x)", "undefined true", "1 1")
	says(t, "print(a, b, c, d, e, f, g, h); if (0) { var a } else var b; for (var c; 0;) var d; while (0) var e; do var f; while (0); l: var g; switch (0) { case 1: var h }", "undefined undefined undefined undefined undefined undefined undefined undefined")
	says(t, "var x = 1; var x; print(x); var x = 2; print(x)", "1", "2")
	says(t, "var toString; print(toString, typeof {}.toString); var NaN, undefined; print(NaN, undefined)", "undefined function", "NaN undefined")
	says(t, "print(toString(), 'valueOf' in this, typeof valueOf)", "[object Undefined] true function")
	fails(t, typeError, "var x; delete this.x", "var x = 1; delete this.x", "var NaN = 1", "var undefined = 1")
	fails(t, referenceError, "print(x); x = 1", "x; { y: var z }")
	w := ecmacore.New(0)
	for _, c := range [][2]string{
		{"var x = 1; this.y = 2", ""}, {"var x, y; print(x, y)", "1 2"}, {"print(delete this.y, typeof y); var y; ", "true undefined"}, {"var y; print(y)", "undefined"},
	} {
		if r := w.Run(c[0], api.Limits{}); r.How != api.Ended || strings.Join(r.Lines, "|") != c[1] {
			t.Errorf("%s: %+v", c[0], r)
		}
	}
	// A variable that was deleted is assigned as a name.
	if r := w.Run("this.v = 1", api.Limits{}); r.How != api.Ended {
		t.Error(r)
	}
	if r := w.Run("delete this.v; var v = 2", api.Limits{}); r.Text != referenceError {
		t.Error(r)
	}
}

// P84: expressions, variables, if, blocks.
func TestPlainStatements(t *testing.T) {
	says(t, "")
	says(t, ";;{}{;}")
	says(t, "print(1); { print(2); { print(3) } } print(4)", "1", "2", "3", "4")
	says(t, "var a = 1, b = a + 1, c, d = print(b); print(a, b, c, d)", "2", "1 2 undefined undefined")
	says(t, "if (1) print(1); if (0) print(2); if ('') print(3); else print(4); if ({}) { print(5) } else print(6); if (0) print(7); else if (null) print(8); else print(9)", "1", "4", "5", "9")
	says(t, "if (1) if (0) print(1); else print(2)", "2")
	ends(t, end{src: "print(1); throw 2; print(3)", text: "number 2", lines: []string{"1"}}, end{src: "if (print('t')) print(1); else throw print('v')", text: "undefined undefined", lines: []string{"t", "v"}})
}

// P84, P72: loops, and their steps.
func TestLoops(t *testing.T) {
	ends(t,
		end{src: "for (var i = 0; i < 3; i++) print(i)", steps: 3, lines: []string{"0", "1", "2"}},
		end{src: "var i = 0; while (i < 3) print(i++)", steps: 3, lines: []string{"0", "1", "2"}},
		end{src: "var i = 0; do print(i++); while (i < 3)", steps: 3, lines: []string{"0", "1", "2"}},
		end{src: "for (; 0;) print(1); while (0) print(2); do print(3); while (0)", steps: 1, lines: []string{"3"}},
		end{src: "for (print('f'); print('t') || i < 2; print('n'), i++) print('b'); var i = 0", steps: 0, lines: []string{"f", "t"}},
		end{src: "for (var i = 0, j = 9; i < j; i += 2, j -= 2) ; print(i, j)", steps: 3, lines: []string{"6 3"}},
		end{src: "var i = 0; for (;;) if (i++ > 1) break; print(i)", steps: 3, lines: []string{"3"}},
		end{src: "for (var i = 0; i < 2; i++) for (var j = 0; j < 3; j++) ;", steps: 8},
		end{src: "var i = 0; for (i; i < 1;) i++; for (; i < 3; ) { i++ } print(i)", steps: 3, lines: []string{"3"}},
		end{src: "var i = 0; while (1) { if (++i > 2) throw i }", text: "number 3", steps: 3},
	)
}

// P84: continue.
func TestContinue(t *testing.T) {
	ends(t,
		end{src: "for (var i = 0; i < 3; i++) { if (i == 1) continue; print(i) }", steps: 3, lines: []string{"0", "2"}},
		end{src: "var i = 0; while (i++ < 3) { if (i == 2) continue; print(i) }", steps: 3, lines: []string{"1", "3"}},
		end{src: "var i = 0; do { if (i == 1) continue; print(i) } while (++i < 3)", steps: 3, lines: []string{"0", "2"}},
		end{src: "do continue; while (print('t'))", steps: 1, lines: []string{"t"}},
		end{src: "a: for (var i = 0; i < 3; i++) for (;;) { if (i == 1) continue a; print(i); break }", steps: 6, lines: []string{"0", "2"}},
		end{src: "var i = 0; a: b: do { while (1) { continue a } } while (++i < 2)", steps: 4},
		end{src: "var i = 0; a: while (i++ < 2) b: for (;;) { c: for (;;) { if (i == 1) continue a; break b } }", steps: 6},
		end{src: "for (var i = 0; i < 3; i++) { switch (i) { case 1: continue; default: print(i) } print('b') }", steps: 3, lines: []string{"0", "b", "2", "b"}},
		end{src: "a: for (var i = 0; i < 2; i++) { b: { switch (1) { default: continue a } } print(0) }", steps: 2},
	)
}

// P84: break.
func TestBreak(t *testing.T) {
	ends(t,
		end{src: "for (var i = 0; ; i++) { if (i == 2) break; print(i) } print('e')", steps: 3, lines: []string{"0", "1", "e"}},
		end{src: "while (1) break; do break; while (print(1)); for (;;) { break } print('e')", steps: 3, lines: []string{"e"}},
		end{src: "a: for (;;) for (;;) { break a } print('e')", steps: 2, lines: []string{"e"}},
		end{src: "for (var i = 0; i < 2; i++) for (;;) break; print('e')", steps: 4, lines: []string{"e"}},
		end{src: "a: { print(1); break a; print(2) } print(3)", lines: []string{"1", "3"}},
		end{src: "a: { b: { c: { break b } print(1) } print(2); break a; print(3) } print(4)", lines: []string{"2", "4"}},
		end{src: "a: b: { break a } a: b: { break b } a: if (1) break a; else print(1); a: break a; print('e')", lines: []string{"e"}},
		end{src: "for (;;) { a: { break } print(1) } print('e')", steps: 1, lines: []string{"e"}},
		end{src: "for (var i = 0; i < 2; i++) { switch (1) { case 1: break } print(i) }", steps: 2, lines: []string{"0", "1"}},
		end{src: "a: for (;;) switch (1) { case 1: break a } print('e')", steps: 1, lines: []string{"e"}},
		end{src: "a: switch (1) { case 1: for (;;) break a; print(1) } print('e')", steps: 1, lines: []string{"e"}},
		end{src: "a: for (;;) { a1: for (;;) { break a1 } break a } a: for (;;) { break a } print('e')", steps: 3, lines: []string{"e"}},
	)
}

// P84: switch.
func TestSwitch(t *testing.T) {
	says(t, "switch (print('v')) { }", "v")
	says(t, "switch (2) { case 1: print(1); case 2: print(2); case 3: print(3); break; case 4: print(4) }", "2", "3")
	says(t, "switch (9) { case 1: print(1); default: print('d'); case 2: print(2) }", "d", "2")
	says(t, "switch (2) { default: print('d'); case 1: print(1); case 2: print(2) }", "2")
	says(t, "switch (9) { default: print('d'); break; case 1: print(1) } print('e')", "d", "e")
	says(t, "switch (9) { case 1: print(1) } print('e')", "e")
	says(t, "switch ('1') { case 1: print(1); break; case '1': print('s'); break; default: print('d') }", "s")
	says(t, "switch (NaN) { case NaN: print(1); break; default: print('d') } switch (0) { case -0: print(0) } switch ({}) { case {}: print(2) }", "d", "0")
	says(t, "switch (3) { case print('a'): default: print('d'); case (print('b'), 3): print(3); case print('c'): print('e') }", "a", "b", "3", "e")
	says(t, "switch (1) { case 1: switch (2) { case 2: print(2); break; case 3: print(3) } print(1); case 9: print(9) }", "2", "1", "9")
	ends(t, end{src: odd + "switch (two) { case '1,2': print(1); case bad: }"}, end{src: "switch (1) { case (print('a'), zz): case print('b'): }", text: referenceError, lines: []string{"a"}})
}

// P72: a run that needs one step more than it has ends there, whatever it is doing.
func TestCut(t *testing.T) {
	for _, c := range []struct {
		src   string
		steps int
		want  api.Result
	}{
		{"for (;;) print(2)", 3, api.Result{Lines: []string{"2", "2", "2"}, How: api.Cut, Steps: 3}},
		{"for (var i = 0; i < 3; i++) print(i)", 3, api.Result{Lines: []string{"0", "1", "2"}, How: api.Ended, Steps: 3}},
		{"for (var i = 0; i < 3; i++) print(i)", 2, api.Result{Lines: []string{"0", "1"}, How: api.Cut, Steps: 2}},
		{"while (print('t') || true) print('b')", 1, api.Result{Lines: []string{"t", "b", "t"}, How: api.Cut, Steps: 1}},
		{"do print('b'); while (print('t') || true)", 1, api.Result{Lines: []string{"b", "t"}, How: api.Cut, Steps: 1}},
		{"do print('b'); while (0)", 0, api.Result{How: api.Cut}},
		{"print(1); for (;;) ;", 0, api.Result{Lines: []string{"1"}, How: api.Cut}},
		{"print(1); for (;;) ;", -7, api.Result{Lines: []string{"1"}, How: api.Cut}},
		{"print([1, 2, 3])", 3, api.Result{Lines: []string{"1,2,3"}, How: api.Ended, Steps: 3}},
		{"print([1, 2, 3])", 2, api.Result{How: api.Cut, Steps: 2}},
		{"print(1, [2, zz1()])", 5, api.Result{How: api.Thrown, Text: referenceError}},
		{"var a = []; a.length = 4294967295; a.join('')", 1 << 30, api.Result{How: api.Cut, Steps: 1 << 20}},
		{"for (;;) ;", 1<<20 + 1, api.Result{How: api.Cut, Steps: 1 << 20}},
		{"print('a', [{}], [[zz2]])", 9, api.Result{How: api.Thrown, Text: referenceError}},
	} {
		if r := run(c.src, c.steps); !reflect.DeepEqual(r, c.want) {
			t.Errorf("%s, %d steps\n got %+v\nwant %+v", c.src, c.steps, r, c.want)
		}
	}
}

// nested: an Array in so many others, which takes two calls each to be written.
func nested(n int) string {
	return fmt.Sprintf("var a = []; for (var i = 1; i < %d; i++) a = [a]; ", n)
}

// P72: a call while 150 are being done.
func TestTooManyCalls(t *testing.T) {
	ends(t,
		end{src: nested(75) + "a + ''", steps: 74 + 74},
		end{src: nested(76) + "a + ''", text: rangeError, steps: 75 + 75},
		end{src: nested(74) + "print(a)", steps: 73 + 73, lines: []string{""}},
		end{src: nested(75) + "print(a)", text: rangeError, steps: 74 + 74},
		end{src: nested(75) + "new Error(a)", text: rangeError, steps: 74 + 74},
		end{src: nested(75) + "Error(a)", text: rangeError, steps: 74 + 74},
		end{src: nested(74) + "print(new Error(a), a)", steps: 73 * 3, lines: []string{"Error "}},
		end{src: "var a = []; a[0] = a; a + ''", text: rangeError, steps: 75},
		end{src: "var a = []; a[0] = a; print(a)", text: rangeError, steps: 74},
		end{src: "var a = []; a[0] = a; a.join()", text: rangeError, steps: 75},
		end{src: "var a = []; a[0] = {valueOf: 1, toString: a.join, length: 1, 0: a}; a.join()", text: rangeError, steps: 100},
	)
	// What was being done is forgotten by the next run.
	w := ecmacore.New(0)
	for range 3 {
		if r := w.Run("var a = []; a[0] = a; a.join()", api.Limits{Steps: many}); r.Text != rangeError || r.Steps != 75 {
			t.Error(r)
		}
	}
}

// P72: a string has at most 8,192 units.
func TestTooLong(t *testing.T) {
	long := "var s = " + of(8192, "a") + "; "
	pairs := "var s = " + of(4096, "\U0001F600") + "; "
	fails(t, rangeError, long+"s + 'a'", long+"'a' + s", long+"s += 1", pairs+"s + 'a'", long+"s + s", long+"s + null", long+"new Error(s) + ''", long+"print(Error(s))")
	ends(t,
		end{src: long + "print((s + '').length, ('' + s === s))", lines: []string{"8192 true"}},
		end{src: pairs + "print((s + '').length)", lines: []string{"8192"}},
		end{src: "var s = " + of(8191, "a") + "; print((s + 'b')[8191], (s + '\\ud83d').length)", lines: []string{"b 8192"}},
		end{src: "var s = " + of(8191, "a") + " + '\\ud83d'; s + '\\ude00'", text: rangeError},
		end{src: "var s = " + of(8192-7, "a") + "; print(('' + Error(s)).length)", lines: []string{"8192"}},
		end{src: "var s = " + of(8192-6, "a") + "; '' + Error(s)", text: rangeError},
		end{src: "var s = 'x'; for (;;) s += s", text: rangeError, steps: 14},
		end{src: "var a = []; a.length = 8193; print(a.join().length)", steps: 8193, lines: []string{"8192"}},
		end{src: "var a = []; a.length = 8194; a.join()", text: rangeError, steps: 8194},
		end{src: long + "[s].join('a')", steps: 1},
		end{src: long + "print([s, , null].join('').length)", steps: 3, lines: []string{"8192"}},
		end{src: long + "[s, zz = 1].join()", text: referenceError},
		end{src: long + "[s, {toString: 0, valueOf: 0}].join()", text: rangeError, steps: 2},
		end{src: long + "[s, {toString: 0, valueOf: 0}].join('')", text: typeError, steps: 2},
		end{src: long + "[s, 1].join('')", text: rangeError, steps: 2},
		end{src: long + "print(s, s)", lines: []string{strings.Repeat("a", 8192) + " " + strings.Repeat("a", 8192)}},
	)
}

package ecmacore_test

import (
	"errors"
	"reflect"
	"strings"
	"testing"

	"ecmacore/api"
	"ecmacore/ecmacore"
	"ecmacore/parse"
)

// P120: what programs do to objects stays for the next ones of the same world, however they ended.
func TestWorldStays(t *testing.T) {
	w, other := ecmacore.New(0), ecmacore.New(0)
	for _, c := range []struct {
		src   string
		steps int
		want  api.Result
	}{
		{"var a = {x: 1}; a.y = [a]; print(a.y)", 5, api.Result{Lines: []string{"[object Object]"}, How: api.Ended, Steps: 1}},
		{"a.x = 2; throw a", 5, api.Result{How: api.Thrown, Text: "Object"}},
		{"for (;;) a.x++", 5, api.Result{How: api.Cut, Steps: 5}},
		{"a.x = ", 5, api.Result{How: api.Early, Text: "SyntaxError", At: 6}},
		{"a.x = 0; 1 = 2", 5, api.Result{How: api.Early, Text: "SyntaxError", At: 9}},
		{"print(a.x, a.y[0] === a)", 0, api.Result{Lines: []string{"7 true"}, How: api.Ended}},
		{"Error.prototype.name = 'E'; print = 5", 0, api.Result{How: api.Ended}},
		{"null.x", 0, api.Result{How: api.Thrown, Text: "Error TypeError "}},
		{"throw Error('m')", 0, api.Result{How: api.Thrown, Text: "Error E m"}},
		{"print()", 0, api.Result{How: api.Thrown, Text: "Error TypeError "}},
	} {
		if r := w.Run(c.src, api.Limits{Steps: c.steps}); !reflect.DeepEqual(r, c.want) {
			t.Errorf("%s\n got %+v\nwant %+v", c.src, r, c.want)
		}
	}
	want := api.Result{Lines: []string{"undefined Error"}, How: api.Ended}
	if r := other.Run("print(typeof a, Error())", api.Limits{}); !reflect.DeepEqual(r, want) {
		t.Errorf("another world: %+v", r)
	}
	if r := ecmacore.Run("print(typeof a, Error())", api.Limits{}); !reflect.DeepEqual(r, want) {
		t.Errorf("Run: %+v", r)
	}
}

// P120: there is a world for every level, and steps are bounded on both sides.
func TestLevelsAndSteps(t *testing.T) {
	for _, level := range []int{-1 << 62, -1, 0, 1, 2, 3, 4, 1 << 62} {
		if r := ecmacore.New(level).Run("print(1 + 1)", api.Limits{}); r.How != api.Ended || len(r.Lines) != 1 || r.Lines[0] != "2" {
			t.Errorf("level %d: %+v", level, r)
		}
	}
	for l, want := range map[level]string{-1 << 62: "undefined", -1: "undefined", 0: "undefined", 1: "function", 2: "function", 3: "function", 4: "function", 1 << 62: "function"} {
		for _, name := range []string{"Object", "Function", "Array", "print.bind", "{}.constructor", "[].map"} {
			l.says(t, "print(typeof "+name+")", want)
		}
	}
	for l, want := range map[level]string{-1: "undefined", 0: "undefined", 1: "undefined", 2: "function", 3: "function", 4: "function", 1 << 62: "function"} {
		for _, name := range []string{"String", "Number", "Boolean", "RegExp", "parseInt", "parseFloat", "isNaN", "isFinite", "'a'.charAt", "(5).toFixed", "/a/.exec", "true.constructor"} {
			if l == 1 && name == "true.constructor" {
				continue // Object, which stands behind
			}
			l.says(t, "print(typeof "+name+")", want)
		}
	}
	for l, want := range map[level]string{-1: "undefined", 0: "undefined", 1: "undefined", 2: "undefined", 3: "object", 4: "object", 1 << 62: "object"} {
		l.says(t, "print(typeof JSON)", want)
	}
	if r := ecmacore.Run("print(JSON.stringify(JSON.parse('[7]')))", api.Limits{Steps: 2}); r.How != api.Ended || r.Lines[0] != "[7]" {
		t.Errorf("%+v", r)
	}
	if r := ecmacore.Run("print(Object.keys([7]))", api.Limits{Steps: 1}); r.How != api.Ended || r.Lines[0] != "0" {
		t.Errorf("%+v", r)
	}
	for steps, want := range map[int]int{-1 << 62: 0, -1: 0, 0: 0, 1: 1, 7: 7, 1<<20 - 1: 1<<20 - 1, 1 << 20: 1 << 20, 1<<20 + 1: 1 << 20, 1 << 62: 1 << 20} {
		if r := run("for (;;) ;", steps); r.How != api.Cut || r.Steps != want {
			t.Errorf("%d steps: %+v", steps, r)
		}
	}
	if r := run("for (var i = 0; i < 1048576; i++) ;", 1<<21); r.How != api.Ended || r.Steps != 1<<20 {
		t.Errorf("%+v", r)
	}
}

// P121: programs that chapter 5 refuses.
func TestEarly(t *testing.T) {
	for _, src := range []string{
		"print(1); 1 = 2", "a b", "'", "var eval", "break", "return", "print(1); {", "{}}", "/(/", "with (a) b", "\xff", "var a = '\xed\xa0\x80'",
		strings.Repeat(" ", api.MaxSource+1), strings.Repeat("(", 200), strings.Repeat("{", 121) + strings.Repeat("}", 121), "delete a", "({a: 1, a: 2})", "for (;;) { l: ; continue l }",
	} {
		_, err := parse.Program(src)
		var f *api.Fault
		if !errors.As(err, &f) {
			t.Fatalf("%.40q is a program", src)
		}
		if r, want := run(src, many), (api.Result{How: api.Early, Text: "SyntaxError", At: f.At}); !reflect.DeepEqual(r, want) {
			t.Errorf("%.40q\n got %+v\nwant %+v", src, r, want)
		}
	}
	if r := run("1 +", 0); r.At != 3 {
		t.Errorf("%+v", r)
	}
}

// P121: how it is told what was thrown.
func TestThrown(t *testing.T) {
	for src, text := range map[string]string{
		"undefined": "undefined undefined", "null": "object null", "true": "boolean true", "5": "number 5", "-0": "number 0", "1e21": "number 1e+21", "'a b'": "string a b", "''": "string ", "'\\ud83d'": "string \xed\xa0\xbd",
		"{}": "Object", "[]": "Array", "[1, 2]": "Array", "/a/": "RegExp", "print": "Function", "this": "Object",
		"{name: 'a'}": "Object a", "{message: 'b'}": "Object b", "{name: 'a', message: 'b'}": "Object a b", "{message: 'b', name: 'a'}": "Object a b", "{name: '', message: ''}": "Object  ",
		"{name: 1, message: null}": "Object", "{name: ['a'], message: 'b'}": "Object b", "{toString: 0, valueOf: 0}": "Object", "{toString: zz1 = print}": referenceError,
		"new Error": "Error Error ", "new TypeError('m')": "Error TypeError m", "RangeError(5)": "Error RangeError 5", "Error.prototype": "Error Error ", "Error": "Function",
	} {
		ends(t, end{src: "throw " + src, text: text})
	}
	ends(t,
		end{src: "print(1); for (var i = 0; ; i++) if (i == 2) throw i", text: "number 2", steps: 3, lines: []string{"1"}},
		end{src: "var e = new TypeError; e.name = 5; throw e", text: "Error "},
		end{src: "var e = [1]; e.name = 'n'; e.message = 'm'; throw e", text: "Array n m"},
		end{src: "var name = 'n'; throw this", text: "Object n"},
	)
}

// P121: lines that were printed are told however the run ended; there are none of another run.
func TestLines(t *testing.T) {
	w := ecmacore.New(0)
	first := w.Run("print(1); print(2)", api.Limits{})
	if second := w.Run("", api.Limits{}); second.Lines != nil || second.How != api.Ended {
		t.Errorf("%+v", second)
	}
	first.Lines[0] = "x"
	if r := w.Run("print(1); print(2)", api.Limits{}); r.Lines[0] != "1" {
		t.Errorf("%+v", r)
	}
	if r := run("print(1); for (;;) print(2)", 1); !reflect.DeepEqual(r.Lines, []string{"1", "2"}) {
		t.Errorf("%+v", r)
	}
}

// P120: functions stay with the scopes that they keep, and are run for the steps of the run that calls them.
func TestFunctionsStay(t *testing.T) {
	w := ecmacore.New(0)
	for _, c := range []struct {
		src   string
		steps int
		want  api.Result
	}{
		{"function counter() { var n = 0; return function () { for (var i = 0; i < 2; i++) n++; return n } } var c = counter()", 9, api.Result{How: api.Ended, Steps: 1}},
		{"print(c())", 9, api.Result{Lines: []string{"2"}, How: api.Ended, Steps: 3}},
		{"print(c())", 2, api.Result{How: api.Cut, Steps: 2}},
		{"print(c(), counter()())", 9, api.Result{Lines: []string{"5 2"}, How: api.Ended, Steps: 7}},
		{"var o = {get x() { return c }, set x(f) { c = f }}; try { throw o } catch (e) { o.e = function () { return e } }", 9, api.Result{How: api.Ended}},
		{"o.x = function () { return 'new' }; print(c(), o.e() === o, o.x())", 9, api.Result{Lines: []string{"new true new"}, How: api.Ended, Steps: 5}},
		{"(function () { throw c })()", 9, api.Result{How: api.Thrown, Text: "Function", Steps: 1}},
		{"function f() { try { f() } finally { } } f()", 1000, api.Result{How: api.Thrown, Text: rangeError, Steps: 150}},
		{"function f() { return 1 } print(f(), c())", 9, api.Result{Lines: []string{"1 new"}, How: api.Ended, Steps: 2}},
	} {
		if r := w.Run(c.src, api.Limits{Steps: c.steps}); !reflect.DeepEqual(r, c.want) {
			t.Errorf("%s\n got %+v\nwant %+v", c.src, r, c.want)
		}
		w.Collect()
	}
}

// Objects that no program can reach are let go while one runs, so that a long run can make many.
func TestCollected(t *testing.T) {
	w := ecmacore.New(0)
	first := w.Stats().Live
	r := w.Run("var keep = [], l; for (var i = 0; i < 20000; i++) { l = [l && l[1], {x: i}]; if (i % 100 == 0) keep[i / 100] = {i: i} } print(keep.length, keep[0].i, keep[199].i, l[1].x, l[0].x); l = 0", api.Limits{Steps: many})
	if want := "200 0 19900 19999 19998"; r.How != api.Ended || r.Lines[0] != want {
		t.Errorf("%+v", r)
	}
	if n := w.Stats().Live; n > 10000 {
		t.Errorf("%d objects", n)
	}
	w.Collect()
	if n := w.Stats().Live; n != first+201 {
		t.Errorf("%d objects, at first %d", n, first)
	}
	if n := w.Collect(); n != 0 {
		t.Errorf("Collect again: %d", n)
	}
	if r := w.Run("print(keep[5].i, 'a'.toString(), (5).toString(), [1] + '', Error('m'), /a/); null.x", api.Limits{Steps: many}); r.Text != typeError || r.Lines[0] != "500 a 5 1 Error: m [object RegExp]" {
		t.Errorf("%+v", r)
	}
}

// Likewise in functions, without a loop; and what scopes keep stays.
func TestCollectedInFunctions(t *testing.T) {
	for _, src := range []string{
		"function f(n) { [n]; if (n) { f(n - 1); f(n - 1) } } f(13)",
		"function f(n) { var a = [n]; if (n) { f(n - 1); f(n - 1) } return a[0] } f(13)",
		"function f(n) { this.n = n; if (n) { new f(n - 1); new f(n - 1) } } new f(13)",
		"function f(n) { function g() { return n } if (n) { f(n - 1); f(n - 1) } return g } f(12)",
		"var o = {get x() { for (var i = 0; i < 15000; i++) ({}); return 1 }}; o.x",
		"(function () { for (var i = 0; i < 15000; i++) (function () { return arguments })(i) })()",
		"for (var i = 0; i < 15000; i++) try { null.x } catch (e) { }",
		"for (var i = 0; i < 5000; i++) for (var k in 'ab') ({})",
	} {
		w := ecmacore.New(0)
		r := w.Run(src, api.Limits{Steps: many})
		if n := w.Stats().Live; r.How != api.Ended || r.Steps < 8000 || n > 5000 {
			t.Errorf("%s: %d objects, %+v", src, n, r)
		}
	}
	for _, src := range []string{"/a/.exec('a')", "'aa'.match(/a/g)", "RegExp('a')", "'a,b'.split(',')", "new String('ab')", "'a'.search('a')", "'a'.replace(/a/, function () { return {} })"} {
		w := ecmacore.New(2)
		r := w.Run("for (var i = 0; i < 9000; i++) "+src, api.Limits{Steps: many})
		if n := w.Stats().Live; r.How != api.Ended || n > 5000 {
			t.Errorf("%s: %d objects, %+v", src, n, r)
		}
	}
	says(t, "function mk(n) { var o = {n: n}; return function () { for (var i = 0; i < 3000; i++) [i]; return o.n } } var l = []; for (var i = 0; i < 20; i++) l[i] = mk(i); var s = ''; for (i = 0; i < 20; i++) s += l[i]() + ' '; print(s)", "0 1 2 3 4 5 6 7 8 9 10 11 12 13 14 15 16 17 18 19 ")
	says(t, "var s = ''; for (var k in {a: 1, b: 2}) { for (var i = 0; i < 5000; i++) ({x: i}); s += k } print(s)", "ab")
	says(t, "print(1 + +{valueOf: function () { var o = {x: 5}; for (var i = 0; i < 9000; i++) ({x: i}); return o.x }})", "6")
}

// Examples 7 to 11 of the document, and those of the README.
func TestExamples(t *testing.T) {
	one.says(t, "var o = {get x() { return this.y }, y: 1}, p = Object.create(o); p.y = 2; print(p.x, Object.keys(p))", "2 y")
	two.says(t, "print(\"abc\".replace(/(b)/, \"[$1$&$']\"), \"a1b22\".split(/(\\d+)/), [3, 1, 2].sort())", "a[bbc]c a,1,b,22, 1,2,3")
	first := ecmacore.New(1)
	for _, c := range []struct {
		src  string
		want api.Result
	}{
		{"var o = Object.create({x: 1}, {y: {value: [3, 1, 2].sort(), enumerable: true}}); print(Object.keys(o), o.x, o.y.map(function (n) { return n * 2 }))", api.Result{Lines: []string{"y 1 2,4,6"}, How: api.Ended, Steps: 16}},
		{"var p = print.bind(null, 'a'); p.apply(null, Object.freeze([1, 2])); o.y = 5", api.Result{Lines: []string{"a 1 2"}, How: api.Thrown, Text: typeError, Steps: 2}},
	} {
		if r := first.Run(c.src, api.Limits{Steps: 100}); !reflect.DeepEqual(r, c.want) {
			t.Errorf("%s\n got %+v\nwant %+v", c.src, r, c.want)
		}
	}
	second := ecmacore.New(2)
	for _, c := range []struct {
		src   string
		steps int
		want  api.Result
	}{
		{"var r = /(\\d)(x)?/g; print('a1b22'.replace(r, '<$1>'), 'a1b2'.split(r), 'a1b2'.match(r), r.exec('b2').index)", 100, api.Result{Lines: []string{"a<1>b<2><2> a,1,,b,2,, 1,2 1"}, How: api.Ended, Steps: 59}},
		{"print(parseInt('ff', 16), (1.005).toFixed(2), Math.max(1, '3'), String.fromCharCode(97)); RegExp('(')", 100, api.Result{Lines: []string{"255 1.00 3 a"}, How: api.Thrown, Text: syntaxError}},
		{"/(a*)*b/.test('aaaaaaaaaaaaaaaaaaaaaaaa')", 1000, api.Result{How: api.Cut, Steps: 1000}},
	} {
		if r := second.Run(c.src, api.Limits{Steps: c.steps}); !reflect.DeepEqual(r, c.want) {
			t.Errorf("%s\n got %+v\nwant %+v", c.src, r, c.want)
		}
	}
	three.says(t, `print(JSON.stringify({a: [1, undefined, "\u0001"], b: function () {}}), JSON.parse("[1, {}]"))`, `{"a":[1,null,"\u0001"]} 1,[object Object]`)
	third := ecmacore.New(3)
	for _, c := range []struct {
		src   string
		steps int
		want  api.Result
	}{
		{"var v = JSON.parse('{\"a\": [1, 2], \"b\": null}', function (k, v) { return v === 2 ? undefined : v }); print(JSON.stringify(v), JSON.stringify(v, ['b'], '-'))", 100, api.Result{Lines: []string{"{\"a\":[1,null],\"b\":null} {\n-\"b\": null\n}"}, How: api.Ended, Steps: 17}},
		{"v.v = v; JSON.stringify(v)", 100, api.Result{How: api.Thrown, Text: typeError, Steps: 6}},
		{"JSON.parse('[1,]')", 100, api.Result{How: api.Thrown, Text: syntaxError}},
	} {
		if r := third.Run(c.src, api.Limits{Steps: c.steps}); !reflect.DeepEqual(r, c.want) {
			t.Errorf("%s\n got %+v\nwant %+v", c.src, r, c.want)
		}
	}
	says(t, "var a = [1, 2]; a.length = 1; print(a, a[1], typeof zz)", "1 undefined undefined")
	ends(t,
		end{src: "function f(n) { return n ? f(n - 1) + 1 : 0 } print(f(100))", steps: 101, lines: []string{"100"}},
		end{src: "function f(n) { return n ? f(n - 1) + 1 : 0 } f(200)", text: rangeError, steps: 150},
		end{src: "(function () { l: for (var i = 0; i < 3; i++) try { continue l } finally { print(i) } })()", steps: 4, lines: []string{"0", "1", "2"}},
	)
	w := ecmacore.New(0)
	for _, c := range []struct {
		src   string
		steps int
		want  api.Result
	}{
		{"var a = [1, 2]; print(a)", 100, api.Result{Lines: []string{"1,2"}, How: api.Ended, Steps: 2}},
		{"a[2] = 3; throw a.length", 100, api.Result{How: api.Thrown, Text: "number 3"}},
		{"for (;;) print(a)", 9, api.Result{Lines: []string{"1,2,3", "1,2,3"}, How: api.Cut, Steps: 9}},
		{"1 = 2", 0, api.Result{How: api.Early, Text: "SyntaxError"}},
		{"function f(n) { return n ? n * f(n - 1) : 1 } try { print(f(5)); zz } catch (e) { print(e) } finally { print('end') }", 100, api.Result{Lines: []string{"120", "ReferenceError", "end"}, How: api.Ended, Steps: 6}},
	} {
		if r := w.Run(c.src, api.Limits{Steps: c.steps}); !reflect.DeepEqual(r, c.want) {
			t.Errorf("%s\n got %+v\nwant %+v", c.src, r, c.want)
		}
	}
}

// P1: programs as large as they may be, whose trees lie deep in themselves.
func TestLargePrograms(t *testing.T) {
	of := func(front, part, back string) string {
		return front + strings.Repeat(part, (api.MaxSource-len(front)-len(back))/len(part)) + back
	}
	for _, c := range []struct{ src, line string }{
		{of("print(0", "+1", ")"), "32764"},
		{of("print(1", "&&1", ")"), "1"},
		{of("print((1", ",1", "))"), "1"},
		{of("print([1", ",1", "].length)"), "32760"},
		{of("var a = 1; print(a", "-a", ")"), "-32757"},
		{of("var a = [], b = a; a[0] = a; print(b", "[0]", "=== a)"), "true"},
		{of("var a = 1;", ";", "print(a)"), "1"},
		{of("var a = {}; a.a = a; print(a", ".a", "=== a)"), "true"},
		{of("var a = 0; ", "a++;", "print(a)"), "16379"},
		{of("switch (1) {", "case 0:", "default: print(2)}"), "2"},
		{of("var a", ",a", " = 5; print(a)"), "5"},
		{of("print(", "0?0:", "1)"), ""},
		{of("var n = 0; function f(x) { n++ }", "f();", "print(n)"), "16374"},
		{of("var n = 0;", "function f(){n++}", "f(); print(n)"), "1"},
		{of("function f() { return 1", ",1", "} print(f())"), "1"},
		{of("function f() { return arguments.length } print(f(1", ",1", "))"), "32743"},
		{of("function f(a", ",a1", ") { }"), ""},
		{of("var n = 0;", "try{n++}finally{}", "print(n)"), "3854"},
		{of("var n = 0;", "try{throw 1}catch(e){n+=e}", "print(n)"), "2519"},
		{of("function f() { var a;", "try{return}finally{return}", "} print(f())"), "undefined"},
		{of("var n = 0;", "for(var k in[1])n++;", "print(n)"), "3275"},
		{of("var a = {};", "a={get x(){return a}};", "print(a.x === a)"), "true"},
		{of("l: for (var n = 0; n < 3; n++) { try { try { ", "if(0)break l;", " } finally { } } finally { } } print(n)"), "3"},
	} {
		r := run(c.src, many)
		if c.line == "" {
			if r.How != api.Early {
				t.Errorf("%.20s ..: %+v", c.src, r)
			}
			continue
		}
		if r.How != api.Ended || len(r.Lines) != 1 || r.Lines[0] != c.line {
			t.Errorf("%.20s ..: %d %s %.50q", c.src, r.How, r.Text, r.Lines)
		}
	}
}

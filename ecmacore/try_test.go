package ecmacore_test

import (
	"fmt"
	"reflect"
	"strings"
	"testing"

	"ecmacore/api"
	"ecmacore/ecmacore"
)

// P84: try and catch.
func TestCatch(t *testing.T) {
	says(t, "try { print(1); throw 'x'; print(2) } catch (e) { print(e) } print(3)", "1", "x", "3")
	says(t, "try { print(1) } catch (e) { print(2) } print(3)", "1", "3")
	says(t, "var o = {}; for (var i = 0; i < 7; i++) try { switch (i) { case 0: throw undefined; case 1: throw null; case 2: throw o; case 3: throw 1 / 3; case 4: throw ''; case 5: throw print; case 6: throw [1, 2] } } catch (e) { print(e, e === o) }", "undefined false", "null false", "[object Object] true", "0.3333333333333333 false", " false", "function () { [code] } false", "1,2 false")
	// P71: what the language throws.
	for src, name := range map[string]string{
		"zz": "ReferenceError", "zz = 1": "ReferenceError", "null.x": "TypeError", "undefined()": "TypeError", "1 in 2": "TypeError", "[].length = -1": "RangeError", "(5).toString(99)": "RangeError",
		"(function f() { f() })()": "RangeError", "new print": "TypeError", "({get x() {}}).x = 1": "TypeError", "NaN = 1": "TypeError", "delete [].length": "TypeError", "var s = " + of(8000, "a") + "; s + s": "RangeError",
	} {
		says(t, "try { "+src+"; print('no') } catch (e) { print(e.name, e.message === '', e instanceof "+name+", e instanceof Error, e); for (var k in e) print(k); e.name = 'n'; print('' + e, "+name+".prototype.name, delete e.name, e) }",
			name+" true true true "+name, fmt.Sprintf("n %s true %s", name, name))
	}
	// It goes through everything that is being done.
	says(t, "function f(n) { if (!n) throw 'deep'; return [1, f(n - 1) + 1] } try { print('a', f(5), zz) } catch (e) { print(e) }", "deep")
	says(t, "try { print([1, {toString: function () { throw 't' }}]) } catch (e) { print(e) } try { ({get x() { throw 'g' }}).x } catch (e) { print(e) } try { ({set x(v) { throw v }}).x = 's' } catch (e) { print(e) } try { [].length = {valueOf: function () { throw 'v' }} } catch (e) { print(e) }", "t", "g", "s", "v")
	says(t, "try { for (var k in {a: 1}) for (;;) switch (1) { case 1: try { throw 1 } finally { print('f') } } } catch (e) { print(k, e) }", "f", "a 1")
	says(t, "try { try { throw 1 } catch (e) { print(e); throw 2 } print('no') } catch (e) { print(e) }", "1", "2")
	// What was done ahead of it is done; what would have been put together is not there.
	says(t, "var a = [1, 2], n = 0; try { a = [n++, n++, zz, n++] } catch (e) { } print(a, n); try { a[n++] = zz } catch (e) { } print(a, n); try { n += zz } catch (e) { } print(n)", "1,2 2", "1,2 3", "3")
	says(t, "var x = 1 + (function () { try { return 2 + zz } catch (e) { return 3 } })() * 4; print(x, [5, (function () { try { null.x } catch (e) { return 6 } })(), 7])", "13 5,6,7")
}

// P84: finally, however the block ended.
func TestFinally(t *testing.T) {
	says(t, "try { print(1) } finally { print(2) } print(3)", "1", "2", "3")
	says(t, "try { try { throw 1 } finally { print(2) } } catch (e) { print(e) }", "2", "1")
	says(t, "try { throw 1 } catch (e) { print(e) } finally { print(2) } try { } catch (e) { print(e) } finally { print(3) }", "1", "2", "3")
	says(t, "try { try { throw 1 } catch (e) { throw 2 } finally { print('f') } } catch (e) { print(e) }", "f", "2")
	says(t, "function f() { try { return 'a' } finally { print('f') } } print(f()); function g() { try { throw 1 } catch (e) { return e } finally { print('f') } } print(g())", "f", "a", "f", "1")
	says(t, "function f(x) { try { return x } finally { x = 9; print(x) } } print(f(1)); var o = {n: 1}; function g() { try { return o } finally { o.n = 2; o = 3 } } print(g().n, o)", "9", "1", "2 3")
	says(t, "for (var i = 0; i < 3; i++) try { if (i == 1) continue; if (i == 2) break; print(i) } finally { print('f' + i) } print(i)", "0", "f0", "f1", "f2", "2")
	says(t, "a: try { break a } finally { print(1) } a: { try { try { break a } finally { print(2) } } finally { print(3) } print('no') } print(4)", "1", "2", "3", "4")
	says(t, "function f() { try { try { return print('a') } finally { print('b') } } finally { print('c') } } print(f())", "a", "b", "c", "undefined")
	says(t, "switch (1) { case 1: try { break } finally { print(1) } case 2: print(2) } print(3)", "1", "3")
	says(t, "l: for (var i = 0; i < 2; i++) for (var k in {a: 1, b: 2}) try { try { continue l } finally { print(i, k) } } finally { print('out') }", "0 a", "out", "1 a", "out")
	ends(t,
		end{src: "try { throw 1 } finally { print('f') }", text: "number 1", lines: []string{"f"}},
		end{src: "try { zz } finally { print('f') }", text: referenceError, lines: []string{"f"}},
		end{src: "try { throw 1 } catch (e) { throw e + 1 } finally { print('f') }", text: "number 2", lines: []string{"f"}},
		end{src: "(function () { try { throw 1 } finally { print('f') } })()", text: "number 1", steps: 1, lines: []string{"f"}},
	)
}

// P84: a finally that ends otherwise than normally: how the try ended is forgotten.
func TestFinallyForgets(t *testing.T) {
	for _, c := range []struct{ body, want string }{
		{"try { return 1 } finally { return 2 }", "2"},
		{"try { throw 1 } finally { return 2 }", "2"},
		{"try { return 1 } finally { throw 2 }", "thrown 2"},
		{"try { throw 1 } finally { throw 2 }", "thrown 2"},
		{"try { throw 1 } catch (e) { throw e + 5 } finally { throw 2 }", "thrown 2"},
		{"try { throw 1 } catch (e) { return 5 } finally { return 2 }", "2"},
		{"a: try { return 1 } finally { break a } return 2", "2"},
		{"a: try { throw 1 } finally { break a } return 2", "2"},
		{"a: try { try { throw 1 } finally { break a } } catch (e) { return 3 } return 2", "2"},
		{"a: { b: try { break a } finally { break b } return 2 }", "2"},
		{"do try { return 1 } finally { continue } while (0); return 2", "2"},
		{"for (var i = 0; i < 2; i++) try { return 1 } finally { continue } return i", "2"},
		{"for (var k in {a: 1, b: 2}) try { throw 1 } finally { continue } return k", "b"},
		{"for (;;) try { throw 1 } finally { break } return 2", "2"},
		{"for (var i = 0; ; i++) try { continue } finally { if (i == 2) break } return i", "2"},
		{"a: for (;;) { for (;;) try { break } finally { break a } } return 2", "2"},
		{"a: for (var i = 0; i < 2; i++) { for (;;) try { break a } finally { continue a } } return i", "2"},
		{"switch (1) { case 1: try { return 1 } finally { break } } return 2", "2"},
		{"try { return 1 } finally { try { throw 5 } catch (e) { } }", "1"},
		{"try { return 1 } finally { try { return 2 } finally { throw 3 } }", "thrown 3"},
		{"try { return 1 } finally { a: try { return 2 } finally { break a } }", "1"},
		{"try { return 1 } finally { for (;;) { try { break } finally { } } }", "1"},
		{"try { throw 1 } finally { a: try { throw 2 } finally { break a } }", "thrown 1"},
		{"try { throw 1 } finally { try { throw 2 } catch (e) { } }", "thrown 1"},
		{"try { try { return 1 } finally { throw 2 } } catch (e) { return e + 3 }", "5"},
		{"try { try { throw 1 } finally { return 2 } } finally { return 3 }", "3"},
		{"try { try { return 1 } finally { return 2 } } finally { }", "2"},
		{"a: try { try { return 1 } finally { break a } } finally { } return 2", "2"},
		{"a: try { return 1 } finally { try { return 2 } finally { break a } } return 3", "3"},
		{"try { return 1 } finally { (function () { return 2 })() }", "1"},
		{"try { return 1 } finally { (function () { try { throw 2 } catch (e) { return 3 } })() }", "1"},
		{"try { throw 1 } catch (e) { try { throw e + 1 } finally { return e } }", "1"},
		{"for (var k in {a: 1, b: 2}) { for (var j in {c: 1, d: 2}) try { return k + j } finally { if (j == 'c') continue } } ", "ad"},
		{"var n = 0; for (;;) try { try { n++; if (n < 3) continue; return n } finally { n += 10; if (n < 15) continue } } finally { n += 100; if (n < 300) continue }", "223"},
	} {
		says(t, "function f() { "+c.body+" } try { print(f()) } catch (e) { print('thrown', e) }", c.want)
	}
}

// P72, P84: when there are no more steps nothing is caught, and no finally is done.
func TestCutInTry(t *testing.T) {
	for _, c := range []struct {
		src   string
		steps int
		want  api.Result
	}{
		{"try { for (;;) print(1) } catch (e) { print(2) } finally { print(3) }", 2, api.Result{Lines: []string{"1", "1"}, How: api.Cut, Steps: 2}},
		{"function f() { try { print('a'); f() } catch (e) { print('c') } finally { print('f') } } f()", 3, api.Result{Lines: []string{"a", "a", "a"}, How: api.Cut, Steps: 3}},
		{"try { throw 1 } catch (e) { for (;;) ; } finally { print(3) }", 5, api.Result{How: api.Cut, Steps: 5}},
		{"try { throw 1 } finally { print('in'); for (;;) ; }", 5, api.Result{Lines: []string{"in"}, How: api.Cut, Steps: 5}},
		{"try { print('a', [1, 2, 3]) } catch (e) { print('c') }", 2, api.Result{How: api.Cut, Steps: 2}},
		{"try { print('a'); ({toString: function () { print('s') }}) + '' } catch (e) { print('c') }", 0, api.Result{Lines: []string{"a"}, How: api.Cut}},
		{"try { for (var k in {a: 1}) print(k) } catch (e) { print('c') } finally { print('f') }", 0, api.Result{How: api.Cut}},
		{"(function () { try { print(1); return (function () { try { for (;;) ; } finally { print(2) } })() } finally { print(3) } })()", 9, api.Result{Lines: []string{"1"}, How: api.Cut, Steps: 9}},
	} {
		if r := run(c.src, c.steps); !reflect.DeepEqual(r, c.want) {
			t.Errorf("%s, %d steps\n got %+v\nwant %+v", c.src, c.steps, r, c.want)
		}
	}
	// What may be printed is bounded likewise.
	long := "var s = " + of(8191, "a") + "; try { for (;;) print(s) } catch (e) { print(1) } finally { s = 'done' }"
	w := ecmacore.New(0)
	if r := w.Run(long, api.Limits{Steps: 99}); r.How != api.Cut || len(r.Lines) != 32 || r.Steps != 33 {
		t.Errorf("%d lines, %d, %d steps", len(r.Lines), r.How, r.Steps)
	}
	if r := w.Run("print(s.length)", api.Limits{}); !reflect.DeepEqual(r.Lines, []string{"8191"}) {
		t.Errorf("%+v", r)
	}
}

// P84: blocks of try lie as deep in each other as the text lets them.
func TestDeepTry(t *testing.T) {
	const n = 100
	src := "function f() { var l = ''; (function () { " + strings.Repeat("try { ", n) + "return 1" + strings.Repeat(" } finally { l += 'f' }", n) + " })(); return l } print(f().length)"
	says(t, src, "100")
	says(t, "a: { "+strings.Repeat("try { ", n)+"break a"+strings.Repeat(" } finally { }", n)+" } print(1)", "1")
	says(t, strings.Repeat("try { ", n)+"throw 0"+strings.Repeat(" } catch (e) { throw e + 1 } finally { }", n-1)+" } catch (e) { print(e) }", "99")
	says(t, strings.Repeat("try { } finally { ", n)+"print(1)"+strings.Repeat(" }", n), "1")
}

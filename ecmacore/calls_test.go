package ecmacore_test

import (
	"fmt"
	"reflect"
	"testing"

	"ecmacore/api"
	"ecmacore/ecmacore"
)

// P72: what takes a step.
func TestStepsOfFunctions(t *testing.T) {
	ends(t,
		end{src: "function f() {}", steps: 0}, end{src: "(function () {})", steps: 0}, end{src: "({get x() {}, set x(v) {}})", steps: 0},
		end{src: "function f() {} f(); f(1, 2); new f; new f()", steps: 4},
		end{src: "print(); Error(); new Error; ({}).toString()", steps: 0, lines: []string{""}},
		end{src: "var o = {get x() { return 1 }, set x(v) {}}; o.x; o.x = 1; o.x++; o.x += 1; o['x']; delete o.x", steps: 7},
		end{src: "var n = {valueOf: function () { return 1 }}; n + n; -n; n < 1; [n] + ''; ({})[n]", steps: 5},
		end{src: "function f(n) { return n ? f(n - 1) : 0 } f(10)", steps: 11},
		end{src: "function f(n) { return n < 2 ? n : f(n - 1) + f(n - 2) } print(f(10))", steps: 177, lines: []string{"55"}},
		end{src: "try { throw 1 } catch (e) { } finally { }", steps: 0},
		end{src: "function f() { for (var i = 0; i < 3; i++) ; } f(); f()", steps: 8},
		end{src: "(function () { l: for (var i = 0; i < 3; i++) try { continue l } finally { print(i) } })()", steps: 4, lines: []string{"0", "1", "2"}},
		end{src: "var o = {toString: function () { return 'x' }}; print([o, o, o])", steps: 6, lines: []string{"x,x,x"}},
		end{src: "var a = []; a.join = function () { return 1 }; '' + a", steps: 1},
		end{src: "function f() { throw 1 } for (var i = 0; i < 3; i++) try { f() } catch (e) { }", steps: 6},
		end{src: "(void 0)((function () {})())", text: typeError, steps: 1},
	)
}

// P72: where one more is needed the run ends at once: what was printed ahead of that is there.
func TestCutInFunctions(t *testing.T) {
	for _, c := range []struct {
		src   string
		steps int
		want  api.Result
	}{
		{"function f() { print(1) } f(); f(); f()", 2, api.Result{Lines: []string{"1", "1"}, How: api.Cut, Steps: 2}},
		{"function f() { print(1) } f(); f()", 2, api.Result{Lines: []string{"1", "1"}, How: api.Ended, Steps: 2}},
		{"function f(n) { print(n); f(n + 1) } f(0)", 4, api.Result{Lines: []string{"0", "1", "2", "3"}, How: api.Cut, Steps: 4}},
		{"print('a'); (function () { print('no') })(print('arg'))", 0, api.Result{Lines: []string{"a", "arg"}, How: api.Cut}},
		{"function F() { print('no') } print('a'); new F(print('arg'))", 0, api.Result{Lines: []string{"a", "arg"}, How: api.Cut}},
		{"for (var k in {a: 1, b: 2}) print(k)", 1, api.Result{Lines: []string{"a"}, How: api.Cut, Steps: 1}},
		{"var o = {set x(v) { print(v) }}; for (o.x in {a: 1, b: 2}) print('b')", 2, api.Result{Lines: []string{"a", "b"}, How: api.Cut, Steps: 2}},
		{"var o = {set x(v) { print(v) }}; for (o.x in {a: 1, b: 2}) print('b')", 3, api.Result{Lines: []string{"a", "b"}, How: api.Cut, Steps: 3}},
		{"function p() { print('p'); return {} } for (p().x in {a: 1}) print('b')", 0, api.Result{How: api.Cut}},
		{"print('x', {toString: function () { print('s'); return 1 }}, {toString: function () { print('t') }})", 1, api.Result{Lines: []string{"s"}, How: api.Cut, Steps: 1}},
		{"({get x() { for (;;) print(1) }}).x", 3, api.Result{Lines: []string{"1", "1"}, How: api.Cut, Steps: 3}},
	} {
		if r := run(c.src, c.steps); !reflect.DeepEqual(r, c.want) {
			t.Errorf("%s, %d steps\n got %+v\nwant %+v", c.src, c.steps, r, c.want)
		}
	}
	// What was done stays, and the next run begins anew.
	w := ecmacore.New(0)
	w.Run("var n = 0; function f() { try { n++; f() } catch (e) { n = -1 } finally { n = -2 } } f()", api.Limits{Steps: 7})
	for range 2 {
		if r := w.Run("print(n); function g(k) { return k ? g(k - 1) : 'deep' } print(g(148))", api.Limits{Steps: 149}); r.How != api.Ended || !reflect.DeepEqual(r.Lines, []string{"7", "deep"}) {
			t.Errorf("%+v", r)
		}
	}
}

// P72: 150 calls can be done within each other, and no more.
func TestDepthOfCalls(t *testing.T) {
	const f = "function f(n) { return n ? f(n - 1) + 1 : 0 } "
	ends(t,
		end{src: f + "print(f(100))", steps: 101, lines: []string{"100"}},
		end{src: f + "print(f(149))", steps: 150, lines: []string{"149"}},
		end{src: f + "print(f(150))", text: rangeError, steps: 150},
		end{src: f + "f(200)", text: rangeError, steps: 150},
		end{src: f + "var o = {get x() { return f(148) }}; print(o.x)", steps: 150, lines: []string{"148"}},
		end{src: f + "var o = {get x() { return f(149) }}; o.x", text: rangeError, steps: 150},
		end{src: f + "var o = {set x(v) { f(149) }}; o.x = 1", text: rangeError, steps: 150},
		end{src: f + "+{valueOf: function () { return f(148) }}", steps: 150},
		end{src: f + "+{valueOf: function () { return f(149) }}", text: rangeError, steps: 150},
		end{src: f + "print({toString: function () { return f(147) }})", steps: 149, lines: []string{"147"}},
		end{src: f + "print({toString: function () { return f(148) }})", text: rangeError, steps: 149},
		end{src: f + "print([{toString: function () { return f(145) }}])", steps: 148, lines: []string{"145"}},
		end{src: f + "print([{toString: function () { return f(146) }}])", text: rangeError, steps: 148},
		end{src: "function F(n) { if (n) this.x = new F(n - 1) } new F(149)", steps: 150},
		end{src: "function F(n) { if (n) this.x = new F(n - 1) } new F(150)", text: rangeError, steps: 150},
		end{src: "function f(n) { return n ? f(n - 1) : new Error } print(f(148))", steps: 149, lines: []string{"Error"}},
		end{src: "function f(n) { return n ? f(n - 1) : new Error } f(149)", text: rangeError, steps: 150},
		end{src: "function f(n) { if (n) return f(n - 1); print('deep') } f(148)", steps: 149, lines: []string{"deep"}},
		end{src: "function f(n) { if (n) return f(n - 1); print('deep') } f(149)", text: rangeError, steps: 150},
		end{src: "function f(n) { return n ? f(n - 1) : (5)() } f(149)", text: typeError, steps: 150},
		end{src: "function f(n) { return n ? f(n - 1) : new print } f(149)", text: typeError, steps: 150},
	)
	// Arguments are done ahead of the call.
	says(t, "function f(n, a) { return n ? f(n - 1, print) : a === print } print(f(149))", "true")
	// One behind the other is no depth, however each of them ends.
	says(t, "var n = 0; function f() { n++; throw 1 } for (var i = 0; i < 500; i++) try { f() } catch (e) { } print(n)", "500")
	says(t, "var n = 0, o = {get x() { n++; throw 1 }, toString: function () { throw 2 }}; for (var i = 0; i < 500; i++) { try { o.x } catch (e) { } try { print(o) } catch (e) { } try { [1, o].join() } catch (e) { } } print(n)", "500")
	says(t, "var n = 0; function f() { for (var k in {a: 1}) try { return n++ } finally { continue } } for (var i = 0; i < 500; i++) f(); print(n)", "500")
}

// P72, P84: a call too many can be caught, wherever in the depth.
func TestDepthCaught(t *testing.T) {
	says(t, "var d = 0, most = 0; function f() { d++; if (d > most) most = d; try { f() } catch (e) { } d-- } f(); print(most, d)", "150 0")
	says(t, "function f(n) { try { return f(n + 1) } catch (e) { return n + e.name } } print(f(1))", "150RangeError")
	says(t, "var l = []; function f(n) { try { f(n + 1) } finally { if (n > 147) l[l.length] = n } } try { f(1) } catch (e) { print(e.name, l) }", "RangeError 150,149,148")
	// Where one was caught there is as much room as before.
	for _, room := range []int{0, 1, 2} {
		want := "RangeError"
		if room > 0 {
			want = fmt.Sprint(room)
		}
		says(t, fmt.Sprintf("function f(n) { return n ? f(n - 1) + 1 : 1 } function g(n) { if (n) return g(n - 1); try { f(900) } catch (e) { } try { return f(%d) } catch (e) { return e.name } } print(g(%d))", room-1, 149-room), want)
	}
	says(t, "function f(n) { if (n) return f(n - 1); try { print(1) } catch (e) { return e.name } } print(f(149)); print(f(148))", "RangeError", "1", "undefined")
}

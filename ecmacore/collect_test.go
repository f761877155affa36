package ecmacore_test

import (
	"fmt"
	"math/rand/v2"
	"reflect"
	"strings"
	"testing"

	"ecmacore/api"
	"ecmacore/ecmacore"
)

// does: a program in a world, which must end, and print these lines.
func does(t *testing.T, w *ecmacore.World, src string, lines ...string) {
	t.Helper()
	r := w.Run(src, api.Limits{Steps: 1 << 20})
	if r.How != api.Ended || strings.Join(r.Lines, "|") != strings.Join(lines, "|") {
		t.Errorf("%s\n got %q (%d %s)\nwant %q", src, r.Lines, r.How, r.Text, lines)
	}
}

// rests: how many objects a world has that can be reached.
func rests(w *ecmacore.World) int {
	w.Collect()
	return w.Stats().Live
}

// P122: each object counts when it is made by the chapters' words; what cannot be reached goes, and the second time nothing.
func TestObjectsCount(t *testing.T) {
	for _, c := range []struct {
		level      int
		src        string
		made, kept int
	}{
		{0, "", 0, 0}, {0, "({})", 1, 0}, {0, "var a = {}", 1, 1}, {0, "[1, {}, []]", 3, 0}, {0, "var a = [1, {}, []]; a.length = 1", 3, 1}, {0, "var a = [{}]; a = a[0]", 2, 1},
		{0, "1 + 'a' + true; null; undefined; 'abc'.length; 'abc'[1]; (5).x; true.y", 0, 0},
		{0, "var l = [{}, [], function () {}], m = {x: l}", 6, 6}, {0, "var l = [{}, [], function () {}], m = {x: l}; l = m.x = 0", 6, 1},
		{0, "function f() {}", 2, 2}, {0, "(function () {})", 2, 0}, {0, "var p = (function () {}).prototype", 2, 2}, {0, "function f() {} f.prototype = 0", 2, 1}, {0, "function f() {} f = f.prototype; f.constructor = 0", 2, 1},
		{0, "function f() { arguments } f(); f()", 4, 2}, {0, "function f(a, b) {} f(1); f(1, 2, 3)", 2, 2}, {0, "function f() { function g() {} } f()", 4, 2}, {0, "function f() { function g() {} return g } var h = f()", 4, 4},
		{0, "var f = function () { var a = {}; return function () { return a } }()", 5, 3}, {0, "var f = function () { var a = {}, b = {}; return function () { } }()", 6, 4},
		{0, "function F() {} new F", 3, 2}, {0, "function F() { return [] } var o = new F", 4, 3}, {0, "function F() { this.x = this } var o = new F; o = 0", 3, 2},
		{0, "/a/", 1, 0}, {0, "var r = /a/", 1, 1}, {0, "for (var i = 0; i < 3; i++) var r = /a/", 3, 1},
		{0, "({get x() { return 1 }})", 3, 0}, {0, "var a = {get x() { return 1 }, set x(v) { }}", 5, 5},
		{0, "try { null.x } catch (e) { }", 1, 0}, {0, "try { zz } catch (e) { var f = function () { return e } }", 3, 3}, {0, "try { throw {a: {}} } catch (e) { var a = e.a }", 2, 1}, {0, "new Error", 1, 0}, {0, "var e = TypeError('m')", 1, 1},
		{0, "for (var k in 'ab') ;", 1, 0}, {0, "for (var k in null) ;", 0, 0}, {0, "for (var k in {a: 1}) ;", 1, 0}, {0, "delete 'a'.x", 1, 0}, {0, "delete (5)[0]", 1, 0},
		{0, "var a = []; a[5000] = {}; a[1 << 30] = [{}]", 4, 4}, {0, "var a = []; a[5000] = {}; a.length = 5000", 2, 1}, {0, "var a = {5: {}, 7: {get 8() { return a }}}; delete a[5]", 5, 4}, {1, "var a = Object.defineProperty([1], 0, {value: {}, writable: false, get enumerable() { }})", 5, 2}, {1, "var a = Object.freeze([{}, [{}]])", 4, 4}, {1, "var a = Object.create({}, {3: {get: function () { }}, 4: {set: function () { }}})", 9, 6},
		{0, "var a = {}; a.a = a; a = 0", 1, 0}, {0, "var a = {b: {}}; a.b.a = a; a = a.b", 2, 2}, {0, "var a = {b: {}}; delete a.b", 2, 1}, {0, "this.a = {}; Error.x = {}; Error.prototype.x = [{}]; print.y = {}", 5, 5},
		{0, "print({}.toString(), {} + [], [{}, 1].join())", 5, 0}, {0, "({}).valueOf.call", 1, 0}, {0, "var v = {}.valueOf, a; a = {v: v}; a.v()", 2, 1},
		{1, "Object(5)", 1, 0}, {1, "var a = Object('a')", 1, 1}, {1, "Object({}); new Object; Object(null)", 3, 0}, {1, "Object.keys({a: 1})", 2, 0}, {1, "Object.create({a: {}})", 3, 0}, {1, "var o = Object.create({a: {}})", 3, 3}, {1, "Object.getOwnPropertyDescriptor({a: 1}, 'a')", 2, 0}, {1, "Object.defineProperty([], 'x', {value: {}})", 3, 0},
		{1, "({}).hasOwnProperty('x'); ''.hasOwnProperty('x')", 2, 0}, {1, "Object.prototype.toString.call(1); Object.prototype.toString.call(null)", 1, 0},
		{1, "print.bind()", 1, 0}, {1, "var b = print.bind({}, [], 1)", 3, 3}, {1, "var b = print.bind({}).bind([])", 4, 4}, {1, "var b = (function () {}).bind(); b = 0", 3, 0}, {1, "print.call(null, {}); print.apply(null, [{}])", 3, 0},
		{1, "[1, 2].map(function () { return {} })", 6, 0}, {1, "var a = [1, 2].map(function () { return {} })", 6, 3}, {1, "[1, 2].filter(print); [[]].concat([{}]); [{}].slice(); [{}].splice(0)", 13, 0}, {1, "[2, 1].sort(); [1].forEach(print); [1].reduce(print, 0)", 3, 0}, {1, "new Array(5); Array(1, 2); try { Array(-1) } catch (e) { }", 3, 0}, {1, "Array.prototype.map.call('ab', print)", 2, 0},
		{2, "new String('a'); new Number; new Boolean; String(1); Number('1'); Boolean(0)", 3, 0}, {2, "'abc'.charAt(1) + 'abc'.slice(1) + 'a'.concat('b') + (5).toFixed(1)", 0, 0}, {2, "'a b'.split(' ')", 1, 0}, {2, "'a'.replace('a', 'b')", 0, 0}, {2, "'a'.replace(/a/, 'b')", 1, 0}, {2, "'a'.match(/a/)", 2, 0}, {2, "'a'.match(/b/)", 1, 0}, {2, "'a'.search('a')", 1, 0}, {2, "/a/.test('a'); /a/.test('b'); /a/.exec('a')", 5, 0}, {2, "var r = /a/; RegExp(r); RegExp('a'); new RegExp(r)", 3, 1}, {2, "try { RegExp('(') } catch (e) { }", 1, 0},
		{3, "JSON.parse('1')", 0, 0}, {3, "JSON.parse('[{}, [], {\"a\": {}}]')", 5, 0}, {3, "JSON.parse('[]', function (k, v) { return v })", 4, 0}, {3, "JSON.stringify(1)", 1, 0}, {3, "JSON.stringify([1])", 2, 0}, {3, "try { JSON.parse('[{}') } catch (e) { }", 3, 0},
	} {
		w := ecmacore.New(c.level)
		if w.Collect() < 0 || w.Collect() != 0 {
			t.Errorf("level %d: Collect of a new world", c.level)
		}
		start := w.Stats().Live
		if r := w.Run(c.src, api.Limits{Steps: 99}); r.How != api.Ended {
			t.Errorf("%s: %+v", c.src, r)
		}
		made := w.Stats().Live - start
		gone := w.Collect()
		if again := w.Collect(); made != c.made || gone != c.made-c.kept || again != 0 || w.Stats().Live != start+c.kept {
			t.Errorf("%s: %d were made, want %d; %d are gone, want %d; again %d", c.src, made, c.made, gone, c.made-c.kept, again)
		}
		if s := w.Stats(); s.Gone != 0 {
			t.Errorf("%s: %d were collected while it ran", c.src, s.Gone)
		}
	}
}

// P122: a world's own objects are those of its library, and can all be reached.
func TestNewWorlds(t *testing.T) {
	const first = 12 + 1 + 18 // prototypes, the global object, functions
	for level, live := range []int{first, first + 43, first + 43 + 42, first + 43 + 42 + 3} {
		w := ecmacore.New(level)
		if s := w.Stats(); s != (api.Stats{Live: live, Peak: live}) {
			t.Errorf("level %d: %+v", level, s)
		}
		if n := w.Collect(); n != 0 {
			t.Errorf("level %d: %d are gone", level, n)
		}
	}
}

// P122: however a program ended, nothing of what it was doing is held.
func TestCollectBehindEnds(t *testing.T) {
	for _, c := range []struct {
		src   string
		steps int
		how   int
		kept  int
	}{
		{"var a = {}; throw {a: [a]}", 9, api.Thrown, 1},
		{"(function f(a) { try { throw a } finally { throw [a] } })({})", 9, api.Thrown, 0},
		{"var a = [1]; (function f(x) { for (;;) [a, x, {}] })({})", 9, api.Cut, 1},
		{"for (var k in {a: [], b: 1}) (function (a) { try { throw a } catch (e) { for (;;) ; } })([])", 9, api.Cut, 0},
		{"function f(n) { var a = {n: n}; f(n + 1); return a } f(0)", 999, api.Thrown, 2},
		{"function f() { this.x = []; new f } new f", 20, api.Cut, 2},
		{"[{}, [], {valueOf: function () { for (;;) ; }} + 1]", 9, api.Cut, 0},
		{"[{toString: function () { throw {} }}].join()", 9, api.Thrown, 0},
		{"var a = [{}], a b", 9, api.Early, 0},
		{"a = [{}]; 1 = 2", 9, api.Early, 0},
		{"var a = {}; a.b = {", 9, api.Early, 0},
		{"\xff", 9, api.Early, 0},
		{"[{}, zz]", 0, api.Thrown, 0},
	} {
		w := ecmacore.New(0)
		start := w.Stats()
		r := w.Run(c.src, api.Limits{Steps: c.steps})
		if s := w.Stats(); c.how == api.Early && s != start {
			t.Errorf("%s: it was begun: %+v", c.src, s)
		}
		if rest := rests(w); r.How != c.how || rest != start.Live+c.kept {
			t.Errorf("%s: %+v, %d are left, want %d", c.src, r, rest-start.Live, c.kept)
		}
		does(t, w, "print([1, {}])", "1,[object Object]")
	}
}

// P122: of several programs, what a later one can reach of an earlier one's stays.
func TestCollectBetweenPrograms(t *testing.T) {
	w := ecmacore.New(1)
	start := w.Stats().Live
	for _, c := range []struct {
		src  string
		rest int // objects beside the library's
	}{
		{"function counter() { var n = {n: 0}, other = {}; return function () { return ++n.n } }", 2},
		{"var c = counter()", 6},
		{"if (c() !== 1) throw 0; var d = c.bind(null, [[]])", 9},
		{"c = 0; if (d() !== 2) throw 0", 9},
		{"d = 0", 2},
		{"counter = 0; var o = {get x() { return d }, set x(v) { d = v }}", 5},
		{"o.x = {o: o}; o = 0", 6},
		{"d = d.o; delete d.x", 1},
		{"d = function () { try { throw {q: [1]} } catch (e) { return function () { return e } } }()", 4},
		{"if (d().q[0] !== 1) throw 0; d = Object.create(d)", 5},
		{"d.length; d = 0", 0},
		{"Array.prototype.first = function () { return this[0] }", 2},
		{"if ([5].first() !== 5) throw 0; delete Array.prototype.first", 0},
		{"Error.prototype.name = {}; Error = 0", 1},
	} {
		if r := w.Run(c.src, api.Limits{Steps: 99}); r.How != api.Ended {
			t.Errorf("%s: %+v", c.src, r)
		}
		if rest := rests(w) - start; rest != c.rest {
			t.Errorf("%s: %d are left, want %d", c.src, rest, c.rest)
		}
		if n := w.Collect(); n != 0 {
			t.Errorf("%s: again %d", c.src, n)
		}
	}
}

// waste makes so many objects at its own steps that those ahead of it which nobody holds are collected.
const waste = "function waste() { for (var i = 0; i < 100; i++) [{}, {}, {}, {}, {}, {}, {}, {}, {}, {}, {}, {}, {}, {}, {}, {}, {}, {}, {}, {}, {}, {}, {}, {}, {}, {}, {}, {}, {}, {}, {}, {}, {}, {}, {}, {}, {}, {}, {}, {}] } "

// P122: what a running program still needs is not collected, whatever holds it. Each program keeps it in the end: it is all there.
func TestHeldWhileRunning(t *testing.T) {
	for _, c := range []struct {
		level int
		src   string
		kept  int // objects in keep
		line  string
	}{
		{0, "keep = [{a: 1}, [waste(), {b: 2}], (waste(), {c: 3}), waste()]; print(keep[0].a, keep[1][1].b, keep[2].c)", 5, "1 2 3"},
		{0, "keep = {a: {x: 1}, b: waste(), get c() { return 3 }, d: (waste(), 4)}; print(keep.a.x, keep.c)", 4, "1 3"},
		{0, "function f(a, b, c) { waste(); return [a, b, c] } keep = f({}, (waste(), [[]]), waste()); print(keep.length)", 4, "3"},
		{0, "function f() { waste(); return arguments } keep = f({}, waste(), [{}]); print(keep.length, keep[2].length)", 4, "3 1"},
		{0, "function f(n) { var x = {n: n}; waste(); return n ? [x, f(n - 1)] : x } keep = f(5); print(keep[0].n, keep[1][0].n)", 11, "5 4"},
		{0, "function F(x) { waste(); this.x = x; waste() } keep = new F([{}]); print(keep.x.length)", 3, "1"},
		{0, "function F() { var o = {f: this}; waste(); return o } keep = new F(waste()); print(typeof keep.f)", 2, "object"},
		{0, "keep = {m: function (x) { waste(); return [this, x] }}.m([waste()]); print(keep.length)", 5, "2"},
		{0, "var o = {get x() { waste(); return [this] }}; keep = o.x; o = 0; print(keep.length)", 4, "1"},
		{0, "var o = {set x(v) { waste(); keep = [this, v] }}; o.x = {v: []}; o = 0; print(keep[1].v.length)", 6, "0"},
		{0, "try { throw {a: [1]} } catch (e) { waste(); keep = e; waste() } print(keep.a)", 2, "1"},
		{0, "try { try { throw {a: [1]} } finally { waste() } } catch (e) { keep = e } print(keep.a)", 2, "1"},
		{0, "function f() { try { return {a: [1]} } finally { waste() } } keep = f(); print(keep.a)", 2, "1"},
		{0, "function f() { try { try { throw [1] } finally { waste() } } finally { waste() } } try { f() } catch (e) { keep = [e] } print(keep)", 2, "1"},
		{0, "function f() { for (;;) try { waste(); return [{}] } finally { waste(); try { throw {} } catch (e) { waste() } } } keep = f(); print(keep.length)", 2, "1"},
		{0, "l: { try { throw {} } finally { waste(); break l } } keep = 0; print(keep)", 0, "0"},
		{0, "keep = function () { var a = {b: []}, c = {}; waste(); return function () { waste(); return a } }(); waste(); print(keep().b.length)", 5, "0"},
		{0, "keep = function f(n) { if (n) { waste(); return f(n - 1) } return f }(3); waste(); print(typeof keep)", 2, "function"},
		{0, "function f(g) { waste(); return g({}) } keep = f(function (a) { waste(); return [a] }); print(keep.length)", 2, "1"},
		{0, "for (var k in {a: 1, b: 2}) { waste(); keep += k } print(keep)", 0, "undefinedab"},
		{0, "keep = []; for (var k in [{}, {}]) for (var j in {x: 1, y: 2}) { waste(); keep[keep.length] = {k: k + j} } print(keep[3].k)", 5, "1y"},
		{0, "for (var k in 'ab') { waste(); keep += k } print(keep)", 0, "undefined01"},
		{0, "function f() { waste(); return keep = {} } for (f().x in {a: 1, b: 2}) waste(); print(keep.x)", 1, "b"},
		{0, "keep = []; for (var i = 0; i < 3; i++) { var r = /a/; r.i = i; waste(); keep[i] = r } r = 0; print(keep[0].i, keep[1].i, keep[2].lastIndex)", 4, "0 1 0"},
		{0, "switch ((waste(), {})) { case waste(): default: waste(); keep = {} } print(typeof keep)", 1, "object"},
		{0, "keep = {x: 1}; keep.x += (waste(), keep = {x: 5}, waste(), 2); print(keep.x)", 1, "5"},
		{0, "keep = [{}, {}]; keep[(waste(), 1)] = [waste()]; print(keep.length)", 3, "2"},
		{0, "keep = {valueOf: function () { waste(); return 7 }}; print(keep + (waste(), 1), [waste()] + keep)", 3, "8 7"},
		{0, "keep = [{toString: function () { waste(); return 'a' }}, {}]; print(keep)", 4, "a,[object Object]"},
		{0, "var e; try { (function f() { f() })() } catch (x) { waste(); keep = x } print(keep)", 1, "RangeError"},
		{1, "keep = function (a, b) { waste(); return [this, a, b] }.bind({t: 1}, {a: 2}); waste(); print(keep({b: 3})[0].t, keep({b: 3})[1].a, keep({b: 3})[2].b)", 5, "1 2 3"},
		{1, "var F = function (a, b) { waste(); this.a = a; this.b = b }.bind(null, {a: 2}); keep = new F({b: 3}); F = 0; print(keep.a.a, keep.b.b)", 5, "2 3"},
		{1, "keep = [5, 4, 3].map(function (x) { waste(); return {v: x} }); waste(); print(keep[0].v, keep[2].v)", 4, "5 3"},
		{1, "keep = [{n: 3}, {n: 1}, {n: 2}].sort(function (a, b) { waste(); return a.n - b.n }); waste(); print(keep[0].n, keep[2].n)", 4, "1 3"},
		{1, "keep = [1, 2, 3].reduce(function (a, x) { waste(); return {a: a, x: x} }, {}); waste(); print(keep.a.a.x)", 4, "1"},
		{1, "keep = Object.defineProperty({}, 'x', {get value() { waste(); return {v: 1} }}); waste(); print(keep.x.v)", 2, "1"},
		{1, "keep = Object.create({p: [1]}); waste(); print(keep.p)", 3, "1"},
		{1, "keep = print.call.bind(function () { waste(); return [this] }, {t: 1}); waste(); print(keep()[0].t)", 4, "1"},
		{2, "keep = []; 'abc'.replace(/./g, function (s) { waste(); keep.push({s: s}) }); waste(); print(keep.length, keep[2].s)", 4, "3 c"},
		{2, "keep = 'a1b2'.match(/(\\w)(\\d)/); waste(); print(keep)", 1, "a1,a,1"},
		{3, "keep = JSON.parse('[{\"a\": [1]}, {}]', function (k, v) { waste(); return v }); waste(); print(keep[0].a, keep.length)", 4, "1 2"},
		{3, "keep = []; JSON.stringify({a: {toJSON: function () { waste(); keep.push([]); return 1 }}}); waste(); print(keep.length)", 2, "1"},
	} {
		w, other := ecmacore.New(c.level), ecmacore.New(c.level)
		does(t, w, "var keep; "+waste)
		does(t, other, "var keep; function waste() { }")
		base := rests(w)
		does(t, w, c.src, c.line)
		does(t, other, c.src, c.line)
		if s := w.Stats(); s.Gone == 0 || s.Live > s.Peak || other.Stats().Gone != 0 {
			t.Errorf("%s: nothing was collected: %+v", c.src, s)
		}
		held := rests(w)
		if want := rests(other); held != want {
			t.Errorf("%s: %d are held, without waste %d", c.src, held, want)
		}
		does(t, w, "keep = 0; for (var n in this) if (n != 'waste') this[n] = 0")
		if n := w.Collect(); n < c.kept || held-n != base {
			t.Errorf("%s: %d of %d were held, %d are left", c.src, n, c.kept, held-n-base)
		}
	}
}

// P122: there are never more than can be reached, half as many again, and 3,000: wherever the program is.
func TestNeverMany(t *testing.T) {
	for _, c := range []struct{ before, src string }{
		{"", "for (var i = 0; i < 5000; i++) { var o = {x: i}; o.x }"},
		{"", "for (var i = 0; i < 20000; i++) ({})"},
		{"", "var keep = []; for (var i = 0; i < 20000; i++) { keep[i] = {}; [{}, {}] }"},
		{"", "var keep = 0; for (var i = 0; i < 20000; i++) keep = {next: keep}"},
		{"function f() { var a = []; return function () { return a } }", "for (var i = 0; i < 4000; i++) f()"},
		{"function F(x) { this.x = x }", "for (var i = 0; i < 9000; i++) new F({})"},
		{"function f(n) { [{}]; if (n) f(n - 1), f(n - 1) }", "f(12)"},
		{"function f(n) { return n ? [f(n - 1)] : [] }", "for (var i = 0; i < 300; i++) f(40)"},
		{"", "for (var i = 0; i < 9000; i++) try { null.x } catch (e) { }"},
		{"", "for (var i = 0; i < 9000; i++) for (var k in 'a') /a/"},
		{"var keep = []; for (var i = 0; i < 20000; i++) keep[i] = {}", "keep[0] = 0; for (var i = 0; i < 50000; i++) ({})"},
		{"var keep = []; for (var i = 0; i < 20000; i++) keep[i] = [1, 2, 3, 4, 5, 6, 7, 8, 9, 10, 11, 12, 13, 14, 15, 16, 17, 18, 19, 20]", "for (var i = 0; i < 50000; i++) ({})"}, // to go through those that stay takes long
	} {
		w := ecmacore.New(0)
		does(t, w, c.before)
		start := w.Stats()
		steps := w.Run(c.src, api.Limits{Steps: 1 << 20}).Steps
		for at := 500; at < steps+500; at += 1 + steps/15 {
			w := ecmacore.New(0)
			does(t, w, c.before)
			w.Run(c.src, api.Limits{Steps: at})
			s := w.Stats()
			if most := rests(w)*3/2 + 3000; s.Live > most || s.Peak > max(most, start.Peak) || s.Peak < s.Live {
				t.Fatalf("%s: behind %d steps: %+v, at most %d", c.src, at, s, most)
			}
		}
	}
}

// P122: what could be reached when there was most does not count for ever: also behind Collect, and from run to run.
func TestFewAgain(t *testing.T) {
	const build = "var keep = []; for (var i = 0; i < 30000; i++) keep[i] = {}"
	w := ecmacore.New(0)
	base := w.Stats().Live
	few := base*3/2 + 3000
	does(t, w, build)
	does(t, w, "keep = 0; for (var i = 0; i < 25000; i++) ({})")
	if s := w.Stats(); s.Live > few || s.Peak < 30000 || s.Peak > 50000 {
		t.Errorf("%+v", s)
	}
	does(t, w, build)
	does(t, w, "keep = 0; for (var i = 0; i < 60000; i++) ;") // without a new object
	if s := w.Stats(); s.Live > few {
		t.Errorf("%+v", s)
	}
	does(t, w, build)
	does(t, w, "keep = 0")
	w.Collect()
	for i := range 3 {
		does(t, w, fmt.Sprintf("for (var i = 0; i < %d; i++) ({})", 2900*i))
		if s := w.Stats(); s.Live > few {
			t.Errorf("%+v", s)
		}
	}
	for range 5000 {
		w.Run("[{}]", api.Limits{}) // without a step
	}
	if s := w.Stats(); s.Live > few {
		t.Errorf("%+v", s)
	}
}

// P122: while a function of the library or a conversion is being done nothing is collected, but behind it.
func TestNotWithin(t *testing.T) {
	for _, src := range []string{
		"[1].map(function () { for (var i = 0; i < 9000; i++) ({}) })",
		"[2, 1].sort(function () { for (var i = 0; i < 9000; i++) ({}) })",
		"+{valueOf: function () { for (var i = 0; i < 9000; i++) ({}) }}",
		"({})[{toString: function () { for (var i = 0; i < 9000; i++) ({}) }}]",
		"(function () { for (var i = 0; i < 9000; i++) ({}) }).call()",
	} {
		w := ecmacore.New(1)
		start := w.Stats().Live
		w.Run(src, api.Limits{Steps: 8000})
		if s := w.Stats(); s.Peak < start+7900 || s.Live+s.Gone < s.Peak {
			t.Errorf("%s: %+v", src, s)
		}
		does(t, w, src+"; for (var i = 0; i < 2; i++) ;")
		if s := w.Stats(); s.Peak < start+8990 || s.Live > start+3000 {
			t.Errorf("%s: %+v", src, s)
		}
	}
}

// P122: Peak is looked at at the program's own steps, and when it is told; Gone counts what was collected while programs ran, and nothing is lost.
func TestPeakAndGone(t *testing.T) {
	w := ecmacore.New(1)
	start := w.Stats().Live
	for _, c := range []struct {
		src  string
		peak int // above the start, when what cannot be reached is gone before it is told
	}{
		{"[{}, {}, {}]", 0},
		{"[{}]; for (var i = 0; i < 1; i++) ;", 2},
		{"[{}, {}, {}]; [{}]; for (var i = 0; i < 1; i++) [{}]", 6},
		{"[[[[[[[[[[]]]]]]]]]]", 6},
		{"(function () { }).x; [{}, {}, {}, {}, {}]; (function () { [{}, {}, {}] })()", 10},
		{"[{}, {}, {}, {}, {}, {}, {}, {}, {}, {}, {}].map(function () { })", 15},
		{"var a = [{}, {}], b = [{}, {}]; a = b = 0; for (var k in {}) [a]; while (false) [a]", 15},
	} {
		w.Run(c.src, api.Limits{Steps: 99})
		w.Collect()
		if s := w.Stats(); s.Peak-start != c.peak || s.Live != start || s.Gone != 0 {
			t.Errorf("%s: %+v, start %d", c.src, s, start)
		}
	}
	does(t, w, "[[[[[[[[[[[[[[[[[[[[]]]]]]]]]]]]]]]]]]]]")
	if s := w.Stats(); s.Live != start+20 || s.Peak != start+20 {
		t.Errorf("%+v, start %d", s, start)
	}
	gone := w.Collect()
	made := 20
	for i := range 5 {
		does(t, w, "for (var i = 0; i < 5000; i++) ({})")
		made += 5000
		s := w.Stats()
		if s.Live+s.Gone+gone != start+made || s.Gone < 4000*i {
			t.Errorf("%+v, %d were made, %d gone", s, made, gone)
		}
		if i%2 == 0 {
			gone += w.Collect()
		}
		if after := w.Stats(); after.Gone != s.Gone || after.Peak != s.Peak || s.Peak < s.Live {
			t.Errorf("%+v, then %+v", s, after)
		}
	}
}

// P2, P122: the same calls, the same Stats; worlds have nothing to do with each other.
func TestStatsAlike(t *testing.T) {
	w, other, idle := ecmacore.New(2), ecmacore.New(2), ecmacore.New(2)
	start := idle.Stats()
	for _, src := range []string{
		"var keep = []; for (var i = 0; i < 9000; i++) { var o = {x: i, y: [i]}; o.x++; if (i % 9 == 0) keep.push(o) }",
		"for (var k in keep) for (var j in keep[k]) delete keep[k][j]",
		"keep.map(function (o) { return {o: o, k: keep.length} }).sort()",
		"throw keep", "for (;;) [keep.length]", "a b",
	} {
		r, again := w.Run(src, api.Limits{Steps: 20000}), other.Run(src, api.Limits{Steps: 20000})
		if !reflect.DeepEqual(r, again) || w.Stats() != other.Stats() || w.Collect() != other.Collect() {
			t.Errorf("%s: %+v, %+v", src, w.Stats(), other.Stats())
		}
	}
	if s := idle.Stats(); s != start {
		t.Errorf("%+v, at first %+v", s, start)
	}
}

// wasteful: the program, in which waste is called here and there ahead of an expression.
func wasteful(t *testing.T, r *rand.Rand, src string) string {
	return turned(t, src, func(n *api.Node) {
		from := 0
		switch n.Kind {
		case api.NCall, api.NAssign:
			from = 1 // what is called, or assigned to, stays a place
		case api.NBinary, api.NArray, api.NProp, api.NReturn, api.NThrow, api.NExpr, api.NIf, api.NCond, api.NAnd, api.NOr:
		default:
			return
		}
		kids := n.Kids
		n.Kids = append([]*api.Node(nil), kids...)
		for i := from; i < len(kids); i++ {
			if kids[i].Kind >= api.NThis && r.IntN(6) == 0 {
				call := &api.Node{Kind: api.NCall, Kids: []*api.Node{{Kind: api.NName, Text: "waste"}}}
				n.Kids[i] = &api.Node{Kind: api.NComma, Kids: []*api.Node{call, kids[i]}}
			}
		}
	})
}

// P122: programs of all kinds do the same, and leave the same, whether objects were collected within them or not.
func TestCollectUnseenAtRandom(t *testing.T) {
	for l := range level(4) {
		m := &maker{Rand: rand.New(rand.NewPCG(13, uint64(l))), level: l}
		ended, gone := 0, 0
		for range 120 {
			src := wasteful(t, m.Rand, m.program())
			w, other := ecmacore.New(int(l)), ecmacore.New(int(l))
			does(t, w, waste)
			does(t, other, "function waste() { }")
			r, plain := w.Run(src, api.Limits{Steps: 9000}), other.Run(src, api.Limits{Steps: 9000})
			if r.How == api.Cut || plain.How == api.Cut {
				continue
			}
			r.Steps, plain.Steps = 0, 0
			ended++
			gone += w.Stats().Gone
			if !reflect.DeepEqual(r, plain) {
				t.Fatalf("%s\n got %+v\nwithout waste %+v", src, r, plain)
			}
			rest, want := rests(w), rests(other)
			if s, p := w.Stats(), other.Stats(); rest != want || s.Hits != p.Hits || s.Misses != p.Misses {
				t.Fatalf("%s\n got %+v\nwithout waste %+v", src, s, p)
			}
		}
		if ended < 50 || gone < 100000 {
			t.Errorf("level %d: %d ended, %d are gone", l, ended, gone)
		}
	}
}

// Example 13, and what README.md tells of it.
func TestStatsOfExample(t *testing.T) {
	w := ecmacore.New(0)
	r := w.Run("for (var i = 0; i < 5000; i++) { var o = {x: i}; o.x }", api.Limits{Steps: 5000})
	s := w.Stats()
	if r.How != api.Ended || s.Hits != 4999 || s.Misses != 1 || s.Peak >= 4000 || s.Live+s.Gone != 31+5000 {
		t.Errorf("%+v, %+v", r, s)
	}
	if n := w.Collect(); n != s.Live-32 || w.Stats().Live != 32 || w.Stats().Gone != s.Gone || w.Collect() != 0 {
		t.Errorf("%d are gone: %+v", n, w.Stats())
	}
}

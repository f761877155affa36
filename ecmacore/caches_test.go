package ecmacore_test

import (
	"math/rand/v2"
	"reflect"
	"strings"
	"testing"

	"ecmacore/api"
	"ecmacore/ecmacore"
)

// counts: Hits and Misses of a program in a world. It must end.
func counts(t *testing.T, w *ecmacore.World, src string) (hits, misses int) {
	t.Helper()
	before := w.Stats()
	if r := w.Run(src, api.Limits{Steps: many}); r.How != api.Ended {
		t.Errorf("%s: %+v", src, r)
	}
	after := w.Stats()
	return after.Hits - before.Hits, after.Misses - before.Misses
}

// counted: what is done a hundred times has so many hits and misses.
type counted struct {
	src          string // the body of a loop by i
	hits, misses int
}

func (l level) counts(t *testing.T, before string, cases ...counted) {
	t.Helper()
	for _, c := range cases {
		w := ecmacore.New(int(l))
		if h, m := counts(t, w, before); h != 0 {
			t.Errorf("%s: %d, %d", before, h, m)
		}
		if h, m := counts(t, w, "for (var i = 0; i < 100; i++) { "+c.src+" }"); h != c.hits || m != c.misses {
			t.Errorf("%s: %d hits and %d misses, want %d and %d", c.src, h, m, c.hits, c.misses)
		}
	}
}

// P123: objects of one shape that have the property themselves: all but the first are hits, however it is read or written.
func TestCachesOwn(t *testing.T) {
	w := ecmacore.New(0)
	if h, m := counts(t, w, "for (var i = 0; i < 5000; i++) { var o = {x: i}; o.x }"); h != 4999 || m != 1 {
		t.Errorf("example 13: %d, %d", h, m)
	}
	level(0).counts(t, "var p = {x: 1, f: function () { return 1 }, F: function () { }, length: 0}; function f() { return {x: 1} } function F() { }",
		counted{"var o = {x: i}; o.x", 99, 1}, counted{"var o = {x: i}; o.x = 1", 99, 1}, counted{"p.x", 99, 1}, counted{"p.x = i", 99, 1}, counted{"f().x", 99, 1}, counted{"f().x = 1", 99, 1}, counted{"this.p", 99, 1}, counted{"this.i = i", 99, 1},
		counted{"p.x += 1", 198, 2}, counted{"p.x -= 1", 198, 2}, counted{"p.x >>>= 1", 198, 2}, counted{"p.x++", 198, 2}, counted{"++p.x", 198, 2}, counted{"p.x--", 198, 2}, counted{"--p.x", 198, 2},
		counted{"p.x = p.x", 198, 2}, counted{"p.x = p.length = i", 198, 2}, counted{"p.x + p.x", 198, 2}, counted{"p.x, p.x, p.x", 297, 3},
		counted{"p.f()", 99, 1}, counted{"p.f.length", 198, 2}, counted{"new p.F", 99, 1}, counted{"new p.F(p.x)", 198, 2}, counted{"typeof p.x", 99, 1}, counted{"void p.x", 99, 1}, counted{"p.x && p.f", 198, 2}, counted{"p.x ? 1 : 2", 99, 1},
		counted{"for (p.x in {a: 1, b: 2}) ;", 199, 1}, counted{"for (f().x in {a: 1}) ;", 99, 1}, counted{"for (var k in p.x) ;", 99, 1}, counted{"switch (p.x) { case p.length: }", 198, 2}, counted{"({x: 1}).x", 99, 1}, counted{"({x: 1, y: 2}).y = 5", 99, 1},
		counted{"var a = [i]; a.length", 99, 1}, counted{"var a = [i]; a.length = 0", 99, 1}, counted{"var a = [i]; a.length = 2; a.length", 198, 2}, counted{"var a = i % 2 ? [] : [1, 2, 3]; a.length", 99, 1}, counted{"f.length", 99, 1}, counted{"print.length", 99, 1}, counted{"(function () { }).prototype", 99, 1},
		counted{"(i % 2 ? f : F).length", 99, 1}, counted{"var o = {x: i}; o[i] = 1; o.x", 99, 1}, counted{"var o = {x: i}; if (i % 2) o = {x: 'a', 5: 1}; o.x", 99, 1}, counted{"var o = {}; o.x = 1; o.x", 99, 101}, counted{"try { throw {x: 1} } catch (e) { e.x }", 99, 1},
	)
}

// P123: what stands right behind all of them is a hit where it is read.
func TestCachesBehind(t *testing.T) {
	const before = "function P() { } P.prototype.a = 1; P.prototype.f = function () { return 1 }; var proto = P.prototype; function Q() { } Q.prototype = new P; function R() { } R.prototype = proto"
	level(0).counts(t, before,
		counted{"new P().f()", 99, 1}, counted{"new P().f", 99, 1}, counted{"({}).toString", 99, 1}, counted{"[i].join", 99, 1}, counted{"print.toString", 99, 1}, counted{"Error.prototype.name", 198, 2}, counted{"try { null.x } catch (e) { e.name }", 99, 1},
		counted{"(i % 2 ? new P : new R).f()", 99, 1}, counted{"new P().a = 1", 0, 100}, counted{"new P().a += 1", 99, 101},
		counted{"proto['k' + i] = 1; new P().f()", 99, 1}, counted{"proto['f'] = function () { }; new P().f()", 99, 1}, counted{"delete proto.k; proto['k'] = 1; new P().constructor", 99, 1},
		counted{"delete proto.a; new P().f", 99, 1},
	)
	level(1).counts(t, before+"; Object.freeze(proto)",
		counted{"new P().f()", 99, 1}, counted{"new R().a", 99, 1}, counted{"[].push(1)", 99, 1}, counted{"print.call()", 99, 1}, counted{"var o = Object.create(proto); o.f", 198, 2}, counted{"var o = Object.create({x: 1}); o.x", 99, 101},
	)
}

// P123: where no object of that shape was met last, or the property stands nowhere that is remembered, is no hit.
func TestCachesMiss(t *testing.T) {
	level(1).counts(t, "function P() { } function F(x) { this.x = x } var e = Object.create({x: 1, get g() { return 1 }})",
		counted{"var o = i % 2 ? {x: i} : {y: 0, x: i}; o.x", 0, 100}, counted{"var o = i % 2 ? {x: i} : {y: 0, x: i}; o.x = 1", 0, 100}, counted{"var o = i % 2 ? {x: i} : {y: 0, x: i}; o.x++", 0, 200}, counted{"var o = i % 2 ? {x: 1} : [1]; o.x", 0, 100},
		counted{"var o = i % 10 ? {x: 1} : {y: 0, x: 1}; o.x", 80, 20}, counted{"var o = i < 50 ? {x: 1} : {y: 0, x: 1}; o.x", 98, 2}, counted{"var o = {}; o['k' + i] = 1; o.x", 0, 100},
		counted{"var o = {x: 1, y: 2}; delete o.y; o.x", 0, 100}, counted{"var o = Object.defineProperty({x: 1}, 'x', {writable: false}); o.x", 99, 101}, counted{"Object.seal({x: 1}).x", 99, 101}, counted{"({}).x", 0, 100}, counted{"({}).x = 1", 0, 100}, counted{"new F(i)", 0, 100}, counted{"new P().toString", 0, 100},
		counted{"Object.create(e).x", 99, 101}, counted{"e.x = 1; delete e.x", 0, 100},
	)
	w := ecmacore.New(0)
	if h, m := counts(t, w, "var o = {}; for (var i = 0; i < 100; i++) o.n = i"); h != 98 || m != 2 {
		t.Errorf("%d, %d", h, m)
	}
	if h, m := counts(t, w, "o = {x: 1, y: 2}; delete o.y; for (var i = 0; i < 100; i++) o.x"); h != 0 || m != 100 { // P67: its shape is not even that of itself
		t.Errorf("%d, %d", h, m)
	}
}

// P123: what is no object counts nowhere, nor does what is no Dot, or neither read nor written.
func TestCachesNowhere(t *testing.T) {
	level(1).counts(t, "var o = {x: 1}, n = null, u, name = 'x'; function f() { }",
		counted{"'a'.length; i.x; true.y; 'a'.toString; (5).valueOf()", 0, 0}, counted{"o['x']; o['x'] = 1; o['x']++; o[name]", 0, 0}, counted{"o['x'] = f; o['x'](); new o['x']; o['x'] = 1", 0, 0},
		counted{"delete o.y; delete o['x']; delete 'a'.x", 0, 0}, counted{"o; name = 'x'; f(); this; typeof zz; i++", 0, 0}, counted{"var l = {x: 1, get y() { return 1 }}, a = [1]", 0, 0}, counted{"for (var k in o) ;", 0, 0}, counted{"for (o['x'] in [1]) ;", 0, 0},
		counted{"try { n.x } catch (e) { } try { u.x = 1 } catch (e) { } try { n.x() } catch (e) { } try { u.x++ } catch (e) { } try { delete n.x } catch (e) { }", 0, 0}, counted{"try { i.x = 1 } catch (e) { } try { 'a'.length = 1 } catch (e) { } try { true.x += 1 } catch (e) { }", 0, 0}, counted{"try { zz.x } catch (e) { } try { zz.x = 1 } catch (e) { }", 0, 0},
		counted{"'x' in o; o instanceof f; o + ''; o == 1", 0, 0}, counted{"[1, 2].concat", 99, 1}, counted{"o.hasOwnProperty('x')", 99, 1},
	)
	w := ecmacore.New(0)
	before := w.Stats()
	for _, src := range []string{"o.x = ", "var o = {}; o.x; 1 = 2", "'a'.x.y", "zz.x"} {
		w.Run(src, api.Limits{Steps: 9})
	}
	if s := w.Stats(); s.Hits != before.Hits || s.Misses != before.Misses {
		t.Errorf("%+v", s)
	}
}

// P123: each is one of both, also if what is read or written then throws, or ends the run.
func TestCachesThrow(t *testing.T) {
	const before = "var throwing = {get x() { throw 1 }, set x(v) { throw 2 }}, slow = {valueOf: function () { throw 3 }}; function f() { } "
	level(1).counts(t, before+"var fixed = Object.preventExtensions({y: 1})",
		counted{"try { f.length = 1 } catch (e) { }", 99, 1}, counted{"try { print.length = 1 } catch (e) { }", 99, 1}, counted{"try { [].length = -1 } catch (e) { }", 99, 1}, counted{"try { [].length = slow } catch (e) { }", 99, 1}, counted{"try { ({x: 1}).x() } catch (e) { }", 99, 1}, counted{"try { new ({x: 1}).x } catch (e) { }", 99, 1}, counted{"try { ({x: slow}).x++ } catch (e) { }", 99, 1}, counted{"try { ({x: slow}).x += 1 } catch (e) { }", 99, 1},
		counted{"try { ({x: 1}).x = zz } catch (e) { }", 0, 0}, counted{"try { ({x: 1}).x += zz } catch (e) { }", 99, 1},
	)
	for _, c := range []struct {
		src string
		sum int
	}{
		{"try { throwing.x } catch (e) { }", 100}, {"try { throwing.x = 1 } catch (e) { }", 100}, {"try { throwing.x++ } catch (e) { }", 100}, {"try { throwing.x() } catch (e) { }", 100}, {"try { ({}).zz() } catch (e) { }", 100}, {"try { new ({}).zz } catch (e) { }", 100}, {"try { ({}).zz.y } catch (e) { }", 100}, {"try { ({}).zz.y = 1 } catch (e) { }", 100}, {"try { for (throwing.x in {a: 1, b: 2}) ; } catch (e) { }", 100},
		{"try { ({x: {}}).x.y.z } catch (e) { }", 200}, {"({get x() { return 1 }}).x", 100}, {"({set x(v) { }}).x = 1", 100}, {"({get x() { return this.y }, y: 1}).x", 200}, {"({set x(v) { this.y = v }}).x += 1", 300},
	} {
		w := ecmacore.New(0)
		counts(t, w, before)
		if h, m := counts(t, w, "for (var i = 0; i < 100; i++) { "+c.src+" }"); h+m != c.sum {
			t.Errorf("%s: %d hits, %d misses, want %d in all", c.src, h, m, c.sum)
		}
	}
	w := ecmacore.New(0)
	for _, c := range []struct {
		src          string
		steps        int
		hits, misses int // so far
	}{
		{"var o = {x: 1}; for (;;) o.x", 10, 9, 1},
		{"for (;;) { o.x = 1; throw o.x }", 10, 9, 3},
		{"o.f = function () { for (;;) o.x }; o.f()", 5, 12, 6},
		{"o.x.y.z", 5, 12, 7},
	} {
		w.Run(c.src, api.Limits{Steps: c.steps})
		if s := w.Stats(); s.Hits != c.hits || s.Misses != c.misses {
			t.Errorf("%s: %+v", c.src, s)
		}
	}
}

// P123: each place has its own; one in a function remembers from call to call and from program to program, whatever is collected between.
func TestCachesStay(t *testing.T) {
	w := ecmacore.New(1)
	for _, c := range []struct {
		src          string
		hits, misses int
	}{
		{"function f(o) { return o.x } f({x: 1})", 0, 1},
		{"f({x: 2}), f({x: 3})", 2, 0},
		{"f({x: 2}); ({x: 1}).x", 1, 1},
		{"f({x: 2}); ({x: 1}).x", 1, 1}, // another program, another place
		{"function g() { return function (o) { return o.x } } var h = g(), k = g(); h({x: 1}); k({x: 1})", 1, 1},
		{"g()({x: 1}); h({y: 0, x: 1})", 1, 1},
		{"k({y: 0, x: 1}); h = k = 0", 1, 0},
		{"g()({y: 0, x: 1})", 1, 0}, // no function is left that has the place, but one that can make it
		{"[{x: 1}, {x: 2}, {x: 3}].forEach(f); [{x: 1}, {x: 2}].map(function (o) { return o.x })", 3 + 1, 2 + 1},
		{"f.call(null, {x: 1}); f.bind(null, {x: 1})()", 2, 2},
		{"var e = {get x() { return this.y }, y: 1}; e.x; e.x", 1, 3},
	} {
		if h, m := counts(t, w, c.src); h != c.hits || m != c.misses {
			t.Errorf("%s: %d hits, %d misses, want %d and %d", c.src, h, m, c.hits, c.misses)
		}
		w.Collect()
	}
	w = ecmacore.New(0)
	if h, m := counts(t, w, "for (var i = 0; i < 20000; i++) { ({x: i}).x; ({y: i, x: 1}).x = i; (function (o) { return o.z })({z: i}) }"); h != 3*19999 || m != 3 || w.Stats().Gone < 80000 {
		t.Errorf("%d, %d, %+v", h, m, w.Stats())
	}
}

// P123: no program can tell of the caches: what is remembered and not right any more is not taken for it.
func TestCachesUnseen(t *testing.T) {
	const before = "function P() { } P.prototype.f = function () { return 'p' }; function read(o) { return o.v } function write(o, v) { o.v = v } function call(o) { return o.f() } function no(f) { try { return f() } catch (e) { return '' + e } } var s = ''; "
	for _, c := range [][2]string{
		{"var p = new P, q = new P; for (var i = 0; i < 4; i++) { if (i == 2) q.f = function () { return 'q' }; s += call(i % 2 ? p : q) }", "ppqp"},
		{"for (var i = 0; i < 4; i++) { s += call(new P); if (i == 1) P.prototype.f = function () { return 'n' } }", "ppnn"},
		{"for (var i = 0; i < 4; i++) { s += call(new P); if (i == 1) P.prototype = {f: function () { return 'n' }} }", "ppnn"},
		{"for (var i = 0; i < 4; i++) { s += no(function () { return call(new P) }); if (i == 1) delete P.prototype.f; if (i == 2) P.prototype.f = function () { return 'b' } }", "ppTypeErrorb"},
		{"for (var i = 0; i < 4; i++) { s += no(function () { return call(new P) }); if (i == 0) P.prototype.g = 1; if (i == 1) { delete P.prototype.f; P.prototype.h = 5; } if (i == 2) { delete P.prototype.h; P.prototype.f = function () { return 'b' } } }", "ppTypeErrorb"},
		{"Object.prototype.v = 'o'; s += read({}) + read({}); P.prototype.v = 'p'; s += read(new P) + read({}) + read(new P); delete Object.prototype.v; s += read({}) + read(new P)", "oopopundefinedp"},
		{"for (var i = 0; i < 4; i++) { var o = {v: 1}; if (i > 1) delete o.v; if (i == 3) o.v = 5; s += read(o) }", "11undefined5"},
		{"var o = {v: 1}; s += read(o) + read(o); delete o.v; s += read(o); o.v = 2; s += read(o) + read(o)", "2undefined4"},
		{"var o = {a: 1, v: 2, b: 3}; read(o); delete o.a; s += read(o); delete o.v; s += read(o); o.w = 7; s += read(o); o.v = 8; s += read(o)", "2undefinedundefined8"},
		{"var o = {v: 1}; write(o, 2); write(o, 3); delete o.v; write(o, 4); s += o.v; for (var k in o) s += k", "4v"},
		{"var r = [read({v: 1}), read({get v() { return 2 }}), read({v: 3})]; s += r", "1,2,3"},
		{"s += read({v: 1}) + read({v: 1}); var o = {v: 1}; read(o); Object.defineProperty(o, 'v', {get: function () { return 'g' }}); s += read(o) + read(o); Object.defineProperty(o, 'v', {value: 7}); s += read(o)", "2gg7"},
		{"var o = {v: 1}; write(o, 2); write(o, 3); Object.defineProperty(o, 'v', {writable: false}); s += no(function () { write(o, 4) }) + o.v; Object.defineProperty(o, 'v', {writable: true}); write(o, 5); s += o.v", "TypeError35"},
		{"var o = {v: 1}; write(o, 2); write(o, 3); Object.freeze(o); s += no(function () { write(o, 4) }) + o.v + read(o)", "TypeError33"},
		{"write({}, 1); write({}, 2); var o = Object.preventExtensions({}); s += no(function () { write(o, 1) }) + o.v", "TypeErrorundefined"},
		{"write({v: 1}, 1); var o = {get v() { return this.w }, set v(x) { this.w = x * 2 }}; write(o, 4); write(o, 5); s += read(o) + o.w; write({v: 1}, 2)", "20"},
		{"var q = new P; write(new P, 1); write(new P, 2); Object.defineProperty(P.prototype, 'v', {set: function (x) { s += 's' + x }}); write(new P, 3); write(q, 4); s += q.v", "s3s4undefined"},
		{"write(new P, 1); write(new P, 2); Object.defineProperty(P.prototype, 'v', {value: 9}); s += no(function () { write(new P, 3) }) + read(new P)", "TypeError9"},
		{"var a = [1, 2]; for (var i = 0; i < 3; i++) { s += a.length; a.length = i } s += a.length", "2012"},
		{"var a = [1, 2, 3]; function len(a, n) { a.length = n } len(a, 2); len(a, 1); s += a; Object.freeze(a); s += no(function () { len(a, 0) }) + a; s += no(function () { len([], -1) })", "1TypeError1RangeError"},
		{"function len(a) { return a.length } s += len([1]) + len([1, 2]) + len('abc') + len({length: 5}) + len(print) + len([]) + len('a')", "13"},
		{"s += '' + read({v: 1}) + read('a') + read(5) + no(function () { return read(null) }) + read({v: 2}) + read(true)", "1undefinedundefinedTypeError2undefined"},
		{"String.prototype.v = 7; s += read('a') + read('b') + read(new String('c')) + read({v: 1}) + read('d')", "29"},
		{"var a = Object.create(null), b = Object.create({v: 2}); s += read(b) + read(Object.create({v: 3})); s += read(a); a.v = 4; s += read(a) + read(Object.create(a)) + read(Object.create(null))", "5undefinedNaN"},
		{"var a = Object.create({v: 1}), b = Object.create(a), c = Object.create(b); s += read(a) + read(b) + read(c); a.v = 2; s += read(a) + read(b) + read(c); b.v = 3; s += read(a) + read(b) + read(c)", "368"},
		{"function up(o) { o.v++; return o.v } s += up({v: 1}) + ',' + up({v: '5'}) + ',' + up({}) + ',' + up({v: 1}) + ',' + up(Object.create({v: 6}))", "2,6,NaN,2,7"},
		{"var log = [], o = {v: 1}; function f(o) { o.v = (delete o.v, o.w = 5, 7); return o } s += JSON.stringify(f({v: 1, z: 2})) + JSON.stringify(f({v: 1, z: 2}))", `{"z":2,"w":5,"v":7}{"z":2,"w":5,"v":7}`},
		{"function f(o, g) { o.v += g(); return o.v } s += f({v: 1}, function () { return 1 }) + f({v: 1}, function () { return 1 }); var o = {v: 1}; s += f(o, function () { delete o.v; return 2 }); o = {v: 1}; s += f(o, function () { Object.defineProperty(o, 'v', {get: function () { return 'g' }, set: function () { }}); return 2 })", "43g"},
		{"var o = {v: 1}; for (o.v in {a: 1, b: 2}) if (o.v == 'a') o = {w: 0, v: 5}; s += o.v", "b"},
	} {
		level(3).says(t, before+c[0]+"; print(s)", c[1])
	}
}

// indexed: the program with each Dot as an Index, which remembers nothing.
func indexed(t *testing.T, src string) string {
	t.Helper()
	return turned(t, src, func(n *api.Node) {
		if n.Kind == api.NDot {
			n.Kind = api.NIndex
			n.Kids = append(n.Kids, &api.Node{Kind: api.NString, Text: n.Text})
			n.Text = ""
		}
	})
}

// P123: programs of all kinds do the same with caches and without.
func TestCachesUnseenAtRandom(t *testing.T) {
	for l := range level(4) {
		m := &maker{Rand: rand.New(rand.NewPCG(11, uint64(l))), level: l}
		hits := 0
		for range 250 {
			src := m.program()
			w, without := ecmacore.New(int(l)), ecmacore.New(int(l))
			for range 2 {
				r, plain := w.Run(src, api.Limits{Steps: 60}), without.Run(indexed(t, src), api.Limits{Steps: 60})
				if !reflect.DeepEqual(r, plain) {
					t.Fatalf("%s\n got %+v\nwithout caches %+v", src, r, plain)
				}
			}
			s, none := w.Stats(), without.Stats()
			if none.Hits+none.Misses != 0 || s.Live != none.Live || s.Peak != none.Peak || s.Gone != none.Gone {
				t.Fatalf("%s\n%+v\nwithout caches %+v", src, s, none)
			}
			hits += s.Hits
		}
		if hits < 50 {
			t.Errorf("level %d: %d hits", l, hits)
		}
	}
}

// change: something that is done to the objects of a list, by the functions of TestCachesChanges.
func change(r *rand.Rand) string {
	one := func(l ...string) string { return l[r.IntN(len(l))] }
	o := one("a", "b", "c", "d", "e")
	switch r.IntN(12) {
	case 0:
		return o + " = {" + one("x: 1", "y: 1, x: 2", "x: 3, y: 4", "") + "}"
	case 1:
		return o + " = Object.create(" + one("a", "b", "c", "d", "e", "null") + ")"
	case 2:
		return o + " = " + one("[1]", "function () { }", "Object(5)", "Object.create(a, {x: {value: 5}})", "{get x() { return this.y }, set x(v) { this.y = v }}")
	case 3:
		return "del(" + o + ")"
	case 4:
		return "def(" + o + ", " + one("{value: 7}", "{writable: false}", "{writable: true}", "{enumerable: false}", "{configurable: false}", "{get: function () { return 9 }}", "{set: function (v) { this.y = v }}", "{value: 1, writable: true}") + ")"
	case 5:
		return one("Object.freeze", "Object.seal", "Object.preventExtensions") + "(" + o + ")"
	case 6, 7, 8:
		return "put(" + o + ", " + one("1", "2", "'a'") + ")"
	}
	return "up(" + o + ")"
}

// P123: few places, and objects of which the same property becomes a getter, loses flags, goes, comes back, and comes to stand in front of others: read and written with caches and without.
func TestCachesChanges(t *testing.T) {
	const before = "var a = {}, b = Object.create(a), c = Object.create(a), d = {x: 1}, e = {x: 2}; function no(f) { try { return f() } catch (e) { return '' + e } } function get(o) { return no(function () { return o.x }) } function put(o, v) { print(no(function () { return o.x = v })) } function up(o) { print(no(function () { return ++o.x })) } function del(o) { print(no(function () { return delete o.x })) } function def(o, d) { no(function () { Object.defineProperty(o, 'x', d) }) } function all() { print(get(a), get(b), get(b), get(c), get(d), get(e), Object.keys(e)) } "
	hits := 0
	for seed := range uint64(300) {
		r := rand.New(rand.NewPCG(seed, 5))
		var src strings.Builder
		src.WriteString(before)
		for range 60 {
			src.WriteString(change(r) + "; all(); ")
		}
		w, without := ecmacore.New(1), ecmacore.New(1)
		got, plain := w.Run(src.String(), api.Limits{Steps: many}), without.Run(indexed(t, src.String()), api.Limits{Steps: many})
		if got.How != api.Ended || !reflect.DeepEqual(got, plain) {
			for i := range got.Lines {
				if got.Lines[i] != plain.Lines[i] {
					t.Fatalf("%s\nline %d: %s\nwithout caches %s", src.String(), i, got.Lines[i], plain.Lines[i])
				}
			}
			t.Fatalf("%+v, without caches %+v", got, plain)
		}
		hits += w.Stats().Hits
	}
	if hits < 10000 {
		t.Errorf("%d hits", hits)
	}
}

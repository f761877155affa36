package ecmacore_test

import (
	"fmt"
	"math/rand/v2"
	"reflect"
	"testing"

	"ecmacore/api"
	"ecmacore/ecmacore"
)

// model: the functions of Array's prototype once more, as a program tells them that has only Get, Has, Put, delete and Define. S counts steps.
const model = `
var M = {}, S = 0;
function object(v) { if (v === undefined || v === null) throw new TypeError; return Object(v) }
function integer(v) { v = +v; return v !== v ? 0 : v === Infinity || v === -Infinity ? v : v < 0 ? -(-v - -v % 1) : v - v % 1 }
function text(v) { var o = Object.create(null); o[v] = 1; return Object.keys(o)[0] }
function array(v) { return {}.toString.call(v) === '[object Array]' }
function need(f) { if (typeof f !== 'function') throw new TypeError }
function define(a, n, v) { Object.defineProperty(a, n, {value: v, writable: true, enumerable: true, configurable: true}) }
function List(v) { this.o = object(v); this.n = this.o.length >>> 0 }
List.prototype.there = function (n) { S++; if (!(n in this.o)) return false; this.v = this.o[n]; return true };
List.prototype.move = function (a, b) { if (this.there(a)) this.o[b] = this.v; else delete this.o[b] };
List.prototype.from = function (v) { v = integer(v); if (v < 0) { v += this.n; if (v < 0) v = 0 } return v > this.n ? this.n : v };
List.prototype.copy = function (a, b, to, n) { for (; a < b; a++, n++) if (this.there(a)) define(to, n, this.v); return n };
M.join = function (by) { var l = new List(this), s = ''; by = by === undefined ? ',' : text(by); for (var i = 0; i < l.n; i++) { S++; if (i) s += by; var v = l.o[i]; if (v !== undefined && v !== null) s += text(v) } return s };
M.toLocaleString = function () { var l = new List(this), s = ''; for (var i = 0; i < l.n; i++) { S++; if (i) s += ','; var v = l.o[i]; if (v !== undefined && v !== null) { v = Object(v); s += text(v.toLocaleString()) } } return s };
M.concat = function () { var a = [], n = 0, l = [object(this)]; for (var i = 0; i < arguments.length; i++) define(l, i + 1, arguments[i]); for (i = 0; i < l.length; i++) if (array(l[i])) { var k = new List(l[i]); n = k.copy(0, k.n, a, n) } else define(a, n++, l[i]); a.length = n; return a };
M.pop = function () { var l = new List(this); if (!l.n) { l.o.length = 0; return } var v = l.o[l.n - 1]; delete l.o[l.n - 1]; l.o.length = l.n - 1; return v };
M.push = function () { var l = new List(this), n = l.n; for (var i = 0; i < arguments.length; i++) l.o[n++] = arguments[i]; l.o.length = n; return n };
M.reverse = function () { var l = new List(this); for (var i = 0, k = l.n - 1; i < k; i++, k--) { S++; var a = l.o[i], b = l.o[k], c = i in l.o, d = k in l.o; if (d) l.o[i] = b; else if (c) delete l.o[i]; if (c) l.o[k] = a; else if (d) delete l.o[k] } return l.o };
M.shift = function () { var l = new List(this); if (!l.n) { l.o.length = 0; return } var v = l.o[0]; for (var i = 1; i < l.n; i++) l.move(i, i - 1); delete l.o[l.n - 1]; l.o.length = l.n - 1; return v };
M.slice = function (a, b) { var l = new List(this); a = l.from(a); b = b === undefined ? l.n : l.from(b); var to = []; to.length = l.copy(a, b, to, 0); return to };
M.splice = function (a, b) { var l = new List(this); a = l.from(a); b = integer(b); if (b < 0) b = 0; if (b > l.n - a) b = l.n - a; var to = [], k = arguments.length < 2 ? 0 : arguments.length - 2; to.length = l.copy(a, a + b, to, 0);
	if (k < b) { for (var i = a + b; i < l.n; i++) l.move(i, i - b + k); for (i = l.n; i > l.n - b + k; i--) { S++; delete l.o[i - 1] } }
	if (k > b) for (i = l.n - 1; i >= a + b; i--) l.move(i, i - b + k);
	for (i = 0; i < k; i++) l.o[a + i] = arguments[i + 2]; l.o.length = l.n - b + k; return to };
M.unshift = function () { var l = new List(this), k = arguments.length; for (var i = l.n - 1; i >= 0; i--) l.move(i, i + k); for (i = 0; i < k; i++) l.o[i] = arguments[i]; return l.o.length = l.n + k };
M.indexOf = function (v, a) { var l = new List(this); a = l.n && arguments.length > 1 ? l.from(a) : 0; for (; a < l.n; a++) if (l.there(a) && l.v === v) return a; return -1 };
M.lastIndexOf = function (v, a) { var l = new List(this), i = l.n - 1; if (l.n && arguments.length > 1) { a = integer(a); if (a < 0) a += l.n; if (a < i) i = a } for (; i >= 0; i--) if (l.there(i) && l.v === v) return i; return -1 };
M.sort = function (f) { var l = new List(this), a = [], n = 0, k = 0; if (f !== undefined) need(f); for (var i = 0; i < l.n; i++) if (l.there(i)) if (l.v === undefined) k++; else define(a, n++, l.v);
	function after(v, w) { S++; if (f) return +f(v, w) > 0; v = text(v); w = text(w); return v > w }
	function sorted(p, q) { if (q - p < 2) return; var h = p + (q - p >> 1); sorted(p, h); sorted(h, q); var i = p, k = h, m = [], n = 0; while (i < h && k < q) define(m, n++, after(a[i], a[k]) ? a[k++] : a[i++]); while (i < h) define(m, n++, a[i++]); while (k < q) define(m, n++, a[k++]); for (i = p; i < q; i++) define(a, i, m[i - p]) }
	sorted(0, n); for (i = 0; i < n; i++) l.o[i] = a[i]; for (; k; k--) l.o[i++] = undefined; for (; i < l.n; i++) { S++; delete l.o[i] } return l.o };
M.every = function (f, on) { var l = new List(this); need(f); for (var i = 0; i < l.n; i++) if (l.there(i) && !f.call(on, l.v, i, l.o)) return false; return true };
M.some = function (f, on) { var l = new List(this); need(f); for (var i = 0; i < l.n; i++) if (l.there(i) && f.call(on, l.v, i, l.o)) return true; return false };
M.forEach = function (f, on) { var l = new List(this); need(f); for (var i = 0; i < l.n; i++) if (l.there(i)) f.call(on, l.v, i, l.o) };
M.map = function (f, on) { var l = new List(this), a = []; need(f); a.length = l.n; for (var i = 0; i < l.n; i++) if (l.there(i)) define(a, i, f.call(on, l.v, i, l.o)); return a };
M.filter = function (f, on) { var l = new List(this), a = [], n = 0; need(f); for (var i = 0; i < l.n; i++) if (l.there(i)) { var v = l.v; if (f.call(on, v, i, l.o)) define(a, n++, v) } return a };
M.reduce = function (f, s) { var l = new List(this), has = arguments.length > 1; need(f); for (var i = 0; i < l.n; i++) if (l.there(i)) if (has) s = f(s, l.v, i, l.o); else { has = true; s = l.v } if (!has) throw new TypeError; return s };
M.reduceRight = function (f, s) { var l = new List(this), has = arguments.length > 1; need(f); for (var i = l.n - 1; i >= 0; i--) if (l.there(i)) if (has) s = f(s, l.v, i, l.o); else { has = true; s = l.v } if (!has) throw new TypeError; return s };
Array.prototype.join = M.join; Array.prototype.toLocaleString = M.toLocaleString;
`

// telling: told(v) tells all of a value and, of an object, of its own properties, but calls nothing.
const telling = `
function told(v, deep) {
	if (typeof v === 'string') return '"' + v + '"';
	if (v === null || typeof v !== 'object' && typeof v !== 'function') return v === 0 && 1 / v < 0 ? '-0' : v + '';
	if (v === L) return 'L'; if (v === B) return 'B'; if (v === K) return 'K'; if (typeof v === 'function') return 'function';
	if (v instanceof Error) return v.name;
	return deep ? '{..}' : whole(v)
}
function whole(v) {
	var names = Object.getOwnPropertyNames(v), s = {}.toString.call(v) + (Object.isExtensible(v) ? '' : '!');
	for (var i = 0; i < names.length; i++) { var d = Object.getOwnPropertyDescriptor(v, names[i]); s += ' ' + names[i] + ':' + ('value' in d ? told(d.value, 1) : 'get') + (d.writable ? 'w' : '') + (d.enumerable ? 'e' : '') + (d.configurable ? 'c' : '') }
	return s
}
print(told(R)); print(whole(Object(L))); print(whole(Object(B))); print(Q); print(C)
`

// setting: what programs of both kinds begin with: a list L, behind which B may stand; K is what functions are called on; Q tells what was called; C counts that.
const setting = `
var Q = '', C = 0, L = 0, B = 0, K = {}, R = 0, busy = 0;
function say(s) { C++; if (Q.length < 3000) Q += s + ' ' }
function num(x) { return {valueOf: function () { say('v'); return x }, toString: function () { say('s'); return 't' }} }
var N1 = num(1), N3 = num(3), N4 = num(4), N5 = num(-3);
`

type lister struct {
	*rand.Rand
}

func (g *lister) one(l ...string) string { return l[g.IntN(len(l))] }

// value: mostly a plain one.
func (g *lister) value() string {
	return g.one("1", "2", "3", "'a'", "'b'", "'10'", "undefined", "null", "NaN", "-0", "true", "K", "[5, , 6]", "[]", "9", "4", "7", g.one("N3", "Object('q')", "{length: 2, 0: 'z'}"))
}

// act: what a function of the program's does to the list, but not within itself.
func (g *lister) act() string {
	n := fmt.Sprint(g.IntN(6))
	act := g.one("", "", "", "", "", "", "delete L["+n+"]", "L.length = "+n, "L["+n+"] = 'new'", "throw 5", "Object.freeze(L)", "Object.preventExtensions(L)", "delete B["+n+"]", "Array.prototype["+n+"] = 'far'",
		"Object.defineProperty(L, "+n+", {value: 'def', configurable: "+g.one("true", "false")+"})", "Array.prototype."+g.one("push.call(L, 8)", "pop.call(L)"))
	if act == "" {
		return ""
	}
	return "if (!busy) { busy = 1; " + act + "; busy = 0 }"
}

func (g *lister) function(gives ...string) string {
	return "function (a, b, c) { say(" + g.one("typeof a", "b", "typeof this", "arguments.length", "c === L") + "); " + g.act() + "; return " + g.one(gives...) + " }"
}

func (g *lister) places() string {
	text := ""
	for n := range g.IntN(7) {
		switch g.IntN(6) {
		case 0:
			continue
		case 1:
			text += fmt.Sprintf("get %d() { say('get%d'); %s; return %s }, ", n, n, g.act(), g.value())
			if g.IntN(2) == 0 {
				text += fmt.Sprintf("set %d(v) { say('set%d'); %s }, ", n, n, g.act())
			}
		default:
			text += fmt.Sprintf("%d: %s, ", n, g.value())
		}
	}
	return text
}

func (g *lister) elements() string {
	text := ""
	for range g.IntN(7) {
		text += g.one(g.value()+", ", g.value()+", ", g.value()+", ", ", ")
	}
	return "[" + text + "]"
}

// list: what the functions are called on.
func (g *lister) list() string {
	switch g.IntN(12) {
	case 0:
		return g.one("'aba'", "'a\\ud83d\\ude00'", "5", "true", "null", "undefined", "''", "function (a, b) {}", "Object('ab')", "(function () { C++; return arguments })(1, 2, 3)", "{}")
	case 1, 2, 3:
		return "{" + g.places() + "length: " + g.one("0", "3", "4", "5", "6", "'4'", "4294967299", "3.7", "N4", "NaN", "-4294967292") + "}"
	case 4, 5:
		return "Object.create(B, {length: {value: 5, writable: " + g.one("true", "true", "false") + "}, " + g.one("1: {value: 'x', writable: true, enumerable: true, configurable: true}", "2: {value: 'y', writable: true}", "3: {get: function () { say('g3'); return 1 }, configurable: true}", "4: {value: 1, configurable: true}") + "})"
	}
	return g.elements()
}

// change: flags of the list turn.
func (g *lister) change() string {
	n := fmt.Sprint(g.IntN(6))
	return g.one("", "", "", "", "Object.freeze(L)", "Object.seal(L)", "Object.preventExtensions(L)",
		"Object.defineProperty(L, "+n+", {value: 'fixed'})", "Object.defineProperty(L, "+n+", {value: 'w', writable: true})", "Object.defineProperty(L, "+n+", {configurable: false})",
		"Object.defineProperty(L, 'length', {writable: false})", "Object.defineProperty(L, "+n+", {get: function () { say('got'); return 1 }, set: function (v) { say('put'); "+g.act()+" }, configurable: true})",
		"Object.prototype["+n+"] = 'behind all'", "Array.prototype["+n+"] = 'behind'", "Object.defineProperty(Array.prototype, "+n+", {value: 0, configurable: true})")
}

func (g *lister) number() string {
	return g.one("0", "1", "2", "3", "4", "9", "-1", "-2", "-9", "NaN", "undefined", "null", "1.9", "-1.5", "Infinity", "-Infinity", "'2'", "N1", "N5", "4294967297", "1e300", "'x'")
}

// call: a function's name and arguments.
func (g *lister) call() (string, string) {
	numbers := func(n int) string { return []string{"", ", " + g.number(), ", " + g.number() + ", " + g.number()}[n] }
	values := []string{"", ", " + g.value(), ", " + g.value() + ", " + g.value(), ", " + g.value() + ", " + g.value() + ", " + g.value()}[g.IntN(4)]
	switch name := g.one("join", "toLocaleString", "concat", "pop", "push", "reverse", "shift", "slice", "sort", "splice", "unshift", "indexOf", "lastIndexOf", "every", "some", "forEach", "map", "filter", "reduce", "reduceRight"); name {
	case "join":
		return name, g.one("", ", '-'", ", undefined", ", N1", ", null")
	case "slice":
		return name, numbers(g.IntN(3))
	case "splice":
		if n := g.IntN(3); n < 2 {
			return name, numbers(n)
		}
		return name, numbers(2) + values
	case "indexOf", "lastIndexOf":
		return name, g.one("", ", "+g.value(), ", "+g.value()+", "+g.number(), ", "+g.value()+", "+g.number())
	case "sort":
		return name, g.one("", ", undefined", ", null", ", "+g.function("a - b", "b - a", "a < b ? 1 : -1", "0", "'1'", "N1", "1"), ", "+g.function("a - b", "b > a", "NaN", "-1"))
	case "every", "some", "forEach", "map", "filter":
		return name, g.one(", "+g.function("a", "b", "true", "false", "!a", "''", "c", "'x'"), ", "+g.function("a", "b", "!b")+", K", ", "+g.function("1", "")+", 5", ", 5", "")
	case "reduce", "reduceRight":
		return name, g.one(", "+g.function("a + b", "b", "c", "a + '-' + b"), ", "+g.function("a + '-' + b")+", "+g.value(), ", "+g.function("b")+", undefined", ", {}, 1", "")
	default:
		return name, values
	}
}

// program: how the list is made, and what is called.
func (g *lister) program() (setup, name, args string) {
	setup = setting + "B = " + g.one("{"+g.places()+"}", g.elements(), "{}") + "; L = " + g.list() + "; try { " + g.change() + " } catch (e) { } try { " + g.change() + " } catch (e) { } C = 0; Q = ''; "
	name, args = g.call()
	return setup, name, args
}

// outcome: what calling a function did, as telling tells it; the world, and the steps of the call alone.
func outcome(t *testing.T, setup, call string) ([]string, *ecmacore.World, int) {
	t.Helper()
	w := ecmacore.New(1)
	first := w.Run(setup, api.Limits{Steps: many})
	second := w.Run("try { R = "+call+" } catch (e) { R = e }", api.Limits{Steps: many})
	last := w.Run(telling, api.Limits{Steps: many})
	if first.How != api.Ended || second.How != api.Ended || last.How != api.Ended {
		t.Fatalf("%s\n%s\n%+v\n%+v\n%+v", setup, call, first, second, last)
	}
	return last.Lines, w, second.Steps
}

// P94 to P96: what the functions of Array's prototype do, and in how many steps, is what the model does, whatever they meet.
func TestModel(t *testing.T) {
	g := &lister{rand.New(rand.NewPCG(9, 4))}
	for range 2000 {
		setup, name, args := g.program()
		got, _, steps := outcome(t, setup, "Array.prototype."+name+".call(L"+args+")")
		want, w, _ := outcome(t, model+setup+"S = 0;", "M."+name+".call(L"+args+")")
		if !reflect.DeepEqual(got, want) {
			t.Fatalf("%s\n%s(%s)\n got %q\nwant %q", setup[len(setting):], name, args, got, want)
		}
		// Whatever is called of the program's calls say.
		if r, want := w.Run("print(S + 2 * C)", api.Limits{}), fmt.Sprint(steps); !reflect.DeepEqual(r.Lines, []string{want}) {
			t.Fatalf("%s\n%s(%s)\n%s steps, the model %q", setup[len(setting):], name, args, want, r.Lines)
		}
	}
}

package ecmacore_test

import (
	"fmt"
	"math/rand/v2"
	"reflect"
	"strings"
	"testing"

	"ecmacore/api"
	"ecmacore/ecmacore"
)

// maker makes up programs.
type maker struct {
	*rand.Rand
	level    level
	deep     int
	loops    int
	labels   []string
	function bool
}

func (m *maker) one(l ...string) string { return l[m.IntN(len(l))] }

func (m *maker) literal() string {
	return m.one("0", "1", "-1", "0.5", "NaN", "Infinity", "1e21", "4294967295", "''", "'a'", "'12'", "' 0x1f '", "'\\u00e9\\ud83d\\ude00'", "'\\ud83d'", "'\\ude00'", "'length'",
		"true", "null", "undefined", "[]", "({})", "[1, , 2]", "print", "Error", "/a/g", "this", "({toString: print})", m.one("1", "1", "({valueOf: 0, toString: 0})"))
}

func (m *maker) name() string { return m.one("a", "b", "c", "o", "p", m.one("a", "b", "none")) }

func (m *maker) object() string {
	return m.one("o", "p", "o", "p", "({x: 1})", "this", "Error.prototype", "[1, 2]", m.one("a", "o", "'abc'", "(5)", "null"))
}

func (m *maker) place() string {
	switch m.IntN(3) {
	case 0:
		return m.name()
	case 1:
		return m.object() + m.one(".x", ".y", ".length", ".toString", ".valueOf", ".join", ".name")
	}
	return m.object() + "[" + m.expression() + "]"
}

func (m *maker) expression() string {
	m.deep++
	defer func() { m.deep-- }()
	if m.deep > 5 {
		return m.one(m.literal(), m.name())
	}
	e := m.expression
	if m.level > 0 && m.IntN(4) == 0 {
		return m.levelOne()
	}
	if m.level > 1 && m.IntN(3) == 0 {
		return m.levelTwo()
	}
	if m.level > 2 && m.IntN(3) == 0 {
		return m.levelThree()
	}
	switch m.IntN(20) {
	case 0, 1:
		return m.literal()
	case 2, 3:
		return m.place()
	case 4, 5, 6:
		return "(" + e() + m.one(" + ", " - ", " * ", " / ", " % ", " << ", " >> ", " >>> ", " & ", " | ", " ^ ", " < ", " > ", " <= ", " >= ", " == ", " != ", " === ", " !== ", " + ", " - ", m.one(" in ", " instanceof ")) + e() + ")"
	case 7:
		return "(" + m.place() + m.one(" = ", " += ", " -= ", " *= ", " |= ", " >>>= ") + e() + ")"
	case 8:
		return "(" + m.place() + m.one("++", "--") + ")"
	case 9:
		return "(" + m.one("++", "--", "delete this.", "typeof ", "void ") + m.name() + ")"
	case 10:
		return "(" + m.one("- ", "+ ", "~", "!", "typeof ", "void ", "delete !") + e() + ")"
	case 11:
		return "(" + e() + m.one(" && ", " || ", ", ") + e() + ")"
	case 12:
		return "(" + e() + " ? " + e() + " : " + e() + ")"
	case 13:
		return "[" + e() + m.one(", ", ", , ") + e() + "]"
	case 14:
		return "({x: " + e() + ", " + m.one("y", "1", "length", "toString", "valueOf") + ": " + e() + "})"
	case 15:
		return "({get " + m.one("x", "y", "valueOf", "toString", "length") + m.body("") + ", set " + m.one("x", "y", "1") + m.body("v") + "})"
	case 16:
		return "(function " + m.one("", "a", "f") + m.body(m.one("", "a", "b, c")) + ")"
	case 17:
		return "(function " + m.one("", "a", "f") + m.body(m.one("", "a", "b, c")) + ")(" + e() + ", " + e() + ")"
	case 18:
		return "(" + m.one("new f", "new o.f", "f", "o.f", "f", "o.f") + "(" + e() + "))"
	}
	return m.one("Error(", "new TypeError(", "print(", "[1, 'b'].join(", m.one("print(", "o.x(", "a(", "new o.x(")) + e() + ")"
}

// levelOne: a call of what level 1 has.
func (m *maker) levelOne() string {
	e := m.expression
	list := m.one("p", "o", "[3, , 1, 'b', 2]", "[1, 2, 3]", "("+e()+")")
	callback := m.one("f", "o.f", "print", "print.bind(null, 'x')", "function "+m.body("a, b, c"), e())
	switch m.IntN(8) {
	case 0:
		return "Object." + m.one("getPrototypeOf", "getOwnPropertyNames", "keys", "seal", "freeze", "preventExtensions", "isSealed", "isFrozen", "isExtensible") + "(" + m.one("o", "p", e()) + ")"
	case 1:
		return "Object." + m.one("defineProperty", "getOwnPropertyDescriptor") + "(" + m.one("o", "p", e()) + ", " + m.one("'x'", "'length'", "1", e()) + ", {" + m.one("value: "+e(), "get: "+callback, "value: "+e()+", writable: true", "set: "+callback, "writable: false") + m.one("", ", enumerable: "+e(), ", configurable: "+e()) + "})"
	case 2:
		return m.one("Object.create(", "Object.defineProperties(") + m.one("o", "p", "null", e()) + m.one("", ", {x: {value: "+e()+"}, y: "+e()+"}", ", "+e()) + ")"
	case 3:
		return m.one("Object(", "new Object(", "Array(", "new Array(", "Array.isArray(", "new (f.bind(o))(", "Function(") + m.one("", e(), e()+", "+e()) + ")"
	case 4:
		return m.one("f", "o.f", "print", "("+e()+")") + "." + m.one("call(", "apply(", "bind(") + m.one("", "o", e()) + ")"
	case 5:
		return m.one("f", "print") + m.one(".call(", ".apply(", ".bind(") + e() + ", " + m.one("p", "[1, 2]", e()) + ")"
	case 6:
		return "Array.prototype." + m.one("every", "some", "forEach", "map", "filter", "reduce", "reduceRight", "sort") + ".call(" + list + ", " + callback + m.one("", ", "+e()) + ")"
	}
	return list + "." + m.one("toLocaleString", "concat", "pop", "push", "reverse", "shift", "slice", "sort", "splice", "unshift", "indexOf", "lastIndexOf", "hasOwnProperty", "isPrototypeOf", "propertyIsEnumerable") + "(" + m.one("", e(), e()+", "+e(), e()+", "+e()+", "+e()) + ")"
}

// levelTwo: a call of what level 2 has.
func (m *maker) levelTwo() string {
	e := m.expression
	text := m.one("'abcabc'", "'a1b22 \\ud83d\\ude00'", "'\\u00e9'", "a", "b", "("+e()+")")
	pattern := m.one("/b/", "/a|b/g", "/(a*)(b)?/g", "/(?:)/gm", "/\\d+/", "/(.)\\1/i", "/^[^a]*$/", "r", "'b'", "''", e())
	args := m.one("", e(), e()+", "+e())
	switch m.IntN(8) {
	case 0:
		return text + "." + m.one("charAt", "charCodeAt", "concat", "indexOf", "lastIndexOf", "localeCompare", "slice", "substring", "toUpperCase", "toLowerCase", "trim") + "(" + args + ")"
	case 1:
		return "String.prototype." + m.one("match", "search", "split", "replace", "slice", "trim", "concat") + ".call(" + m.one("o", "p", e()) + ", " + e() + ")"
	case 2:
		return text + "." + m.one("match", "search") + "(" + pattern + ")"
	case 3:
		return text + ".replace(" + pattern + ", " + m.one("'<$&$1$$>'", "\"$`$'\"", "f", "o.f", "function "+m.body("a, b, c"), e()) + ")"
	case 4:
		return text + ".split(" + pattern + m.one("", ", 2", ", "+e()) + ")"
	case 5:
		return "RegExp.prototype." + m.one("exec", "test", "toString") + ".call(" + pattern + ", " + text + ")"
	case 6:
		return m.one("String(", "new String(", "Number(", "new Number(", "Boolean(", "new Boolean(", "RegExp(", "new RegExp(", "parseInt(", "parseFloat(", "isNaN(", "isFinite(", "String.fromCharCode(") + args + ")"
	}
	return m.one("Math."+m.one("abs", "ceil", "floor", "sqrt", "round", "pow", "max", "min")+"(", "(5.25)."+m.one("toFixed", "toExponential", "toPrecision", "toString", "toLocaleString")+"(") + args + ")"
}

// levelThree: a call of what level 3 has.
func (m *maker) levelThree() string {
	e := m.expression
	callback := m.one("f", "o.f", "print", "function "+m.body("a, b"), "function (k, v) { return v }", e())
	if m.IntN(2) == 0 {
		return "JSON.parse(" + m.one("'[1, [2, \"a\"], {\"x\": null}]'", "'{\"x\": {\"y\": [true]}, \"1\": -1.5e1}'", "' 5 '", "'[1, 2'", "JSON.stringify("+e()+")", e()) + m.one("", ", "+callback) + ")"
	}
	value := m.one("o", "p", "[1, [o, p], 'a']", "({a: p, toJSON: f})", "({x: "+e()+", y: "+e()+"})", e())
	return "JSON.stringify(" + value + m.one("", ", "+callback, ", ['x', 1, 'y']", ", "+e()) + m.one("", ", 2", ", "+e()) + ")"
}

func (m *maker) statement() string {
	m.deep++
	defer func() { m.deep-- }()
	if m.deep > 4 {
		return m.one("print("+m.expression()+");", m.expression()+";")
	}
	s := m.statement
	switch m.IntN(16) {
	case 0, 1:
		return "print(" + m.expression() + ", " + m.expression() + ");"
	case 2:
		return m.place() + " = " + m.expression() + ";"
	case 3:
		return "var " + m.name() + " = " + m.expression() + ", " + m.name() + ";"
	case 4:
		return "if (" + m.expression() + ") { " + s() + " } else " + s()
	case 5:
		return "{ " + s() + " " + s() + " }"
	case 6, 7:
		return m.loop()
	case 8:
		return "switch (" + m.expression() + ") { case " + m.expression() + ": " + s() + m.one("", " break;") + " default: " + s() + m.one("", " break;") + " case " + m.expression() + ": " + s() + " }"
	case 9:
		return m.labelled("") + "{ " + s() + m.end(" }")
	case 10:
		return m.jump()
	case 11:
		return "try { " + s() + " " + s() + " } catch (" + m.one("e", "a") + ") { " + s() + " }"
	case 12:
		return "try { " + s() + " } finally { " + s() + " }"
	case 13:
		return "try { " + s() + " } catch (e) { " + s() + " } finally { " + s() + " }"
	case 14:
		return m.jump()
	}
	return m.one("throw "+m.expression()+";", ";", m.expression()+";")
}

// body: the parameters and body of a function, in which no loop or label of before can be meant.
func (m *maker) body(params string) string {
	outer := *m
	m.loops, m.labels, m.function = 0, nil, true
	m.deep += 2
	text := "(" + params + ") { " + m.statement() + m.one("", " function f(a) { return a }", " var a = arguments;", " return "+m.expression()) + " }"
	m.deep -= 2
	m.loops, m.labels, m.function = outer.loops, outer.labels, outer.function
	return text
}

// labelled: a label ahead, or not; kind: l for a loop's.
func (m *maker) labelled(kind string) string {
	m.labels = append(m.labels, fmt.Sprint(kind, "n", len(m.labels)))
	return m.labels[len(m.labels)-1] + ": "
}

func (m *maker) end(text string) string {
	m.labels = m.labels[:len(m.labels)-1]
	return text
}

func (m *maker) loop() string {
	label := m.labelled("l")
	i := fmt.Sprint("i", len(m.labels))
	m.loops++
	body := m.statement()
	m.loops--
	n := fmt.Sprint(m.IntN(4))
	switch m.IntN(6) {
	case 0:
		return m.end(label + "for (var " + i + " = 0; " + i + " < " + n + "; " + i + "++) " + body)
	case 1:
		return m.end("{ var " + i + " = 0; " + label + "while (" + i + "++ < " + n + ") " + body + " }")
	case 2:
		return m.end("{ var " + i + " = 0; " + label + "do " + body + " while (" + i + "++ < " + n + ") }")
	case 3:
		return m.end(label + "for (var " + i + " in " + m.expression() + ") " + body)
	case 4:
		return m.end(label + "for (" + m.place() + " in " + m.one("o", "p", "{x: 1, y: 2}") + ") " + body)
	}
	return m.end("{ var " + i + " = 0; " + label + "for (;;) { if (" + i + "++ > " + n + ") break; " + body + " } }")
}

func (m *maker) jump() string {
	var l []string
	if m.loops > 0 {
		l = append(l, "break;", "continue;")
	}
	for _, label := range m.labels {
		l = append(l, "break "+label+";")
		if label[0] == 'l' {
			l = append(l, "continue "+label+";")
		}
	}
	if m.function {
		l = append(l, "return;", "return "+m.expression()+";")
	}
	if l == nil {
		return ";"
	}
	return "if (" + m.expression() + ") " + m.one(l...)
}

func (m *maker) program() string {
	m.deep, m.loops, m.labels, m.function = 0, 0, nil, false
	src := "var a = " + m.literal() + ", b = " + m.literal() + ", c = " + m.literal() + ", o = {x: print, f: f, get y() { return this.x }, set y(v) { this.x = v }}, p = [1, [2], 'a'], r = /(a)|b/g, k9; function f" + m.body("a") + " "
	for range 1 + m.IntN(5) {
		src += m.statement() + " "
	}
	return src + "print(a, b, c); print(o, p)"
}

// P1, P2: no program panics, and every one does the same again, in a world of its own.
func TestRandomPrograms(t *testing.T) {
	for l := range level(4) {
		m := &maker{Rand: rand.New(rand.NewPCG(19, 6)), level: l}
		how := [5]int{}
		for range 1500 {
			src := m.program()
			r := l.run(src, 30)
			if again := l.run(src, 30); !reflect.DeepEqual(r, again) {
				t.Fatalf("%s\nfirst %+v\nthen %+v", src, r, again)
			}
			how[r.How]++
			fewerSteps(t, m, src, r)
		}
		if how[api.Ended] < 120 || how[api.Thrown] < 180 || how[api.Cut] < 12 || how[api.Early] > 0 {
			t.Errorf("level %d: how they ended: %v", l, how)
		}
	}
}

// fewerSteps: P72: with fewer steps than it takes, a run does the same up to there.
func fewerSteps(t *testing.T, m *maker, src string, r api.Result) {
	if r.How == api.Early || r.Steps == 0 {
		return
	}
	steps := m.IntN(r.Steps)
	cut := m.level.run(src, steps)
	if cut.How != api.Cut || cut.Steps != steps || cut.Text != "" || len(cut.Lines) > len(r.Lines) || strings.Join(cut.Lines, "\n") != strings.Join(r.Lines[:len(cut.Lines)], "\n") {
		t.Fatalf("%s\nwhole %+v\ncut %+v", src, r, cut)
	}
	if r.How == api.Cut {
		return
	}
	if just := m.level.run(src, r.Steps); !reflect.DeepEqual(just, r) {
		t.Fatalf("%s\nwhole %+v\njust %+v", src, r, just)
	}
}

// P84: around a program's statements, what changes nothing must change nothing.
func TestWrapped(t *testing.T) {
	m := &maker{Rand: rand.New(rand.NewPCG(22, 7))}
	for range 1000 {
		src := m.program()
		at := strings.Index(src, "function f(")
		names, rest := src[:at], src[at:]
		end := strings.LastIndex(rest, "print(a, b, c)") // the function ends somewhere ahead of it: it is left where it is
		function, statements := cutFunction(rest[:end])
		whole := run(src, 40)
		for _, w := range []struct {
			front, back string
			steps       int
		}{
			{"try { ", " } finally { }", 0},
			{"try { ", " } catch (e9) { throw e9 }", 0},
			{"try { try { ", " } finally { void 0 } } catch (e9) { throw e9 } finally { }", 0},
			{"l9: { ", " }", 0},
			{"switch (1) { default: ", " }", 0},
			{"for (var k9 in {x: 1}) { ", " }", 1},
			{"try { throw 1 } catch (e9) { ", " }", 0},
			{"try { } finally { ", " }", 0},
			{"try { throw 1 } catch (e9) { } finally { ", " }", 0},
			{"l9: try { throw 1 } finally { try { ", " } finally { } break l9 }", 0},
		} {
			wrapped := names + function + w.front + statements + w.back + rest[end:]
			got := run(wrapped, 40+w.steps)
			got.Steps -= w.steps
			if !reflect.DeepEqual(got, whole) {
				t.Fatalf("%s\n got %+v\n%s\n got %+v", src, whole, wrapped, got)
			}
		}
	}
}

// cutFunction: a function at the front of a text, and what follows.
func cutFunction(text string) (string, string) {
	deep := 0
	for i, c := range text {
		switch c {
		case '{':
			deep++
		case '}':
			deep--
			if deep == 0 {
				return text[:i+1], text[i+1:]
			}
		}
	}
	return text, ""
}

// P1: whatever the text is, and whatever world it meets.
func TestRandomTexts(t *testing.T) {
	m := &maker{Rand: rand.New(rand.NewPCG(7, 8))}
	w := ecmacore.New(0)
	for i := range 20000 {
		src := ""
		for range m.IntN(12) {
			src += m.one("a", "o", " ", "\n", "print", "(", ")", "(", ")", "[", "]", "{", "}", ";", ",", ".x", "=", "+", "++", "-", "in", " in ", "1", "'a'", "/a/", "var ", "for", "while", "do ", "if", "else ", "switch", "case 1:", "default:", "break ", "continue ", "throw ", "new ", "delete ", "typeof ", "this", "null", "!", "?", ":", "&&", "function", "try", "catch", "finally", "get ", "\xff", "\u2028", "=", "Error")
		}
		r := w.Run(src, api.Limits{Steps: m.IntN(50)})
		if r.How < api.Ended || r.How > api.Cut {
			t.Fatalf("%q: %+v", src, r)
		}
		if i%1000 == 0 {
			w.Collect()
		}
	}
}

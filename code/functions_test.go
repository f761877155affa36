package code_test

import (
	"slices"
	"testing"

	"ecmacore/code"
)

// inner: the code of the first function in a program.
func inner(t *testing.T, src string) *code.Code {
	t.Helper()
	return compiled(t, src).Functions[0]
}

// P82: which variables a function has, and which of them is what.
func TestVariables(t *testing.T) {
	for _, c := range []struct {
		src                                string
		params, variables, self, arguments int
	}{
		{"(function () { })", 0, 0, code.None, code.None},
		{"(function (a, b) { var a, c; var c })", 2, 3, code.None, code.None},
		{"(function (a) { function a() { } function b() { } for (var c in d) { } })", 1, 3, code.None, code.None},
		{"(function f() { })", 0, 1, 0, code.None},
		{"(function f(f) { })", 1, 1, code.None, code.None},
		{"(function f() { var f })", 0, 1, code.None, code.None},
		{"(function f() { function f() { } })", 0, 1, code.None, code.None},
		{"(function f() { try { } catch (f) { } })", 0, 1, 0, code.None},
		{"function f() { }", 0, 0, code.None, code.None},
		{"(function () { if (0) typeof arguments[0] })", 0, 1, code.None, 0},
		{"(function f(a) { arguments })", 1, 3, 1, 2},
		{"(function () { a.arguments; ({arguments: 1}); arguments: ; 'arguments' })", 0, 0, code.None, code.None},
		{"(function () { (function () { arguments }); function f() { arguments } ({get a() { arguments }}) })", 0, 1, code.None, code.None},
	} {
		f := inner(t, c.src)
		if f.Params != c.params || f.Variables != c.variables || f.Self != c.self || f.Arguments != c.arguments {
			t.Errorf("%s: %d parameters, %d variables, itself %d, arguments %d", c.src, f.Params, f.Variables, f.Self, f.Arguments)
		}
	}
}

// P77: where a name is found: how many scopes further out.
func TestUp(t *testing.T) {
	for _, c := range []struct {
		src  string
		want []code.Instr
	}{
		{"(function (a, b) { b })", []code.Instr{{Op: code.ReadVariable, Arg: 1}}},
		{"(function (a, b) { (function () { b }) })", []code.Instr{{Op: code.ReadVariable, Arg: 1, Up: 1}}},
		{"(function (a) { (function () { (function (a) { a }) }) })", []code.Instr{{Op: code.ReadVariable}}},
		{"(function (a) { (function () { try { } catch (e) { (function () { a = e }) } }) })", []code.Instr{{Op: code.ReadVariable, Up: 1}, {Op: code.WriteVariable, Up: 3}}},
		{"(function (a) { try { } catch (a) { a } a })", []code.Instr{{Op: code.ReadVariable}, {Op: code.ReadVariable}}},
		{"(function (a) { try { } catch (e) { a } a })", []code.Instr{{Op: code.ReadVariable, Up: 1}, {Op: code.ReadVariable}}},
		{"(function f() { (function () { f = 1 }) })", []code.Instr{{Op: code.RefuseVariable, Up: 1}}},
		{"(function f() { try { } catch (f) { f = 1 } })", []code.Instr{{Op: code.WriteVariable}}},
		{"(function f() { b }); function b() { b }", nil},
	} {
		if got := variables(compiled(t, c.src)); !slices.Equal(got, c.want) {
			t.Errorf("%s\n got %+v\nwant %+v", c.src, got, c.want)
		}
	}
}

// variables: the instructions that speak of any, in inner functions first.
func variables(c *code.Code) []code.Instr {
	var l []code.Instr
	for _, f := range c.Functions {
		l = append(l, variables(f)...)
	}
	for _, in := range c.Instrs {
		if in.Op >= code.ReadVariable && in.Op <= code.RefuseVariable {
			l = append(l, in)
		}
	}
	return l
}

// P82, P83: functions that are declared, in order, and under which name.
func TestHoisted(t *testing.T) {
	c := compiled(t, "a(); function b(x) { } (function c() { function d() { } }); function a(x, y) { function e() { } return 1; function f() { } } function b() { }")
	var names []string
	var params []int
	for _, h := range c.Hoisted {
		names = append(names, h.Name.Text())
		params = append(params, c.Functions[h.Function].Params)
	}
	if !slices.Equal(names, []string{"b", "a", "b"}) || !slices.Equal(params, []int{1, 2, 0}) {
		t.Errorf("hoisted %q, %d", names, params)
	}
	f := c.Functions[c.Hoisted[1].Function]
	if len(f.Hoisted) != 2 || f.Hoisted[0].Variable != 2 || f.Hoisted[1].Variable != 3 {
		t.Errorf("in a: %+v", f.Hoisted)
	}
}

// Of guards that lie in each other the innermost is found, and none for what stands in a catch or finally itself.
func TestGuards(t *testing.T) {
	c := compiled(t, "try { try { 1 } catch (e) { 2 } 3 } catch (e) { 4 } finally { 5 } 6")
	var targets []int
	for at, in := range c.Instrs {
		if in.Op != code.Push || c.Values[in.Arg].Num < 1 {
			continue
		}
		g, has := c.GuardOf(at)
		if !has {
			g.Target = code.Nowhere
		}
		targets = append(targets, slices.IndexFunc(c.Guards, func(o code.Guard) bool { return o.Target == g.Target }))
	}
	if want := []int{0, 1, 1, 2, -1, -1}; !slices.Equal(targets, want) {
		t.Errorf("guards %d, want %d", targets, want)
	}
}

// A finally block stands in the code once, however deep they lie in each other and however many ways lead to them.
func TestFinallyOnce(t *testing.T) {
	src := ";"
	for range 50 {
		src = "try { " + src + " } finally { try { a } finally { if (b) return; } " + src[:min(len(src), 1)] + " }"
	}
	c := inner(t, "(function () { "+src+" })")
	if n := len(c.Instrs); n > 5000 {
		t.Errorf("%d instructions", n)
	}
	deep := "a"
	for range 50 {
		deep = "try { } finally { " + deep + " }"
	}
	if n := len(compiled(t, deep).Instrs); n > 500 {
		t.Errorf("%d instructions", n)
	}
}

package code_test

import (
	"slices"
	"testing"

	"ecmacore/code"
	"ecmacore/parse"
)

func compiled(t *testing.T, src string) *code.Code {
	t.Helper()
	n, err := parse.Program(src)
	if err != nil {
		t.Fatal(err)
	}
	return code.Compile(n)
}

func ops(c *code.Code) []code.Op {
	var l []code.Op
	for _, in := range c.Instrs {
		l = append(l, in.Op)
	}
	return l
}

// The code of some programs, in which the order of things is seen.
func TestOps(t *testing.T) {
	for _, c := range []struct {
		src  string
		want []code.Op
	}{
		{"", []code.Op{code.End}},
		{"a.b = c", []code.Op{code.ReadName, code.Solid, code.ReadName, code.WriteDot, code.Pop, code.End}},
		{"a[b] += c", []code.Op{code.ReadName, code.ReadName, code.Place, code.CopyTwo, code.ReadIndex, code.ReadName, code.Add, code.WriteIndex, code.Pop, code.End}},
		{"a.b++", []code.Op{code.ReadName, code.Solid, code.Copy, code.ReadDot, code.ToNumber, code.Copy, code.Under, code.More, code.WriteDot, code.Pop, code.Pop, code.End}},
		{"--a", []code.Op{code.ReadName, code.ToNumber, code.Less, code.WriteName, code.Pop, code.End}},
		{"a.b(1)", []code.Op{code.ReadName, code.MethodDot, code.Push, code.Call, code.Pop, code.End}},
		{"var a = 1, b", []code.Op{code.Push, code.WriteName, code.Pop, code.End}},
		{"a(1)", []code.Op{code.Push, code.ReadName, code.Push, code.Call, code.Pop, code.End}},
		{"while (a) b", []code.Op{code.ReadName, code.JumpUnless, code.Step, code.ReadName, code.Pop, code.Jump, code.End}},
		{"do a; while (b)", []code.Op{code.Step, code.ReadName, code.Pop, code.ReadName, code.JumpIf, code.End}},
		{"for (a; b; c) d", []code.Op{code.ReadName, code.Pop, code.ReadName, code.JumpUnless, code.Step, code.ReadName, code.Pop, code.ReadName, code.Pop, code.Jump, code.End}},
		{"switch (a) { case 1: b }", []code.Op{code.ReadName, code.Push, code.JumpCase, code.Pop, code.Jump, code.ReadName, code.Pop, code.End}},
	} {
		if got := ops(compiled(t, c.src)); !slices.Equal(got, c.want) {
			t.Errorf("%s\n got %v\nwant %v", c.src, got, c.want)
		}
	}
}

// Every round of a loop passes a step: what goes backwards goes to one, or to a test in front of one.
func TestJumpsBack(t *testing.T) {
	c := compiled(t, "a: for (;;) { b: while (1) { do { if (x) continue a; if (y) continue b; if (z) continue; break } while (2) } switch (3) { case 4: continue; default: break a } }")
	for at, in := range c.Instrs {
		if in.Op > code.JumpCase || in.Op == code.End || in.Arg > at {
			continue
		}
		if !slices.ContainsFunc(c.Instrs[in.Arg:at], func(in code.Instr) bool { return in.Op == code.Step }) {
			t.Errorf("%d goes back to %d without a step", at, in.Arg)
		}
	}
}

// Variables, in order, wherever they stand.
func TestDeclared(t *testing.T) {
	var got []string
	for _, k := range compiled(t, "a: { var c = 1, b } for (var a = 0; ; ) { if (1) var d; else do var e; while (0); break } switch (0) { default: var c, f }").Declared {
		got = append(got, k.Text())
	}
	if want := []string{"c", "b", "a", "d", "e", "c", "f"}; !slices.Equal(got, want) {
		t.Errorf("declared %q", got)
	}
}

// What is not built yet has no code.
func TestNotBuilt(t *testing.T) {
	for _, src := range []string{"function f() { }", "(function () { })", "try { } finally { }", "for (a in b) ;", "({get a() { }})", "[{set a(b) { }}]"} {
		if compiled(t, src) != nil {
			t.Errorf("%s has code", src)
		}
	}
}

// effect: how many values an instruction takes, and how many it puts there.
func effect(in code.Instr) (takes, puts int) {
	switch in.Op {
	case code.Jump, code.Step, code.End:
		return 0, 0
	case code.JumpIf, code.JumpUnless, code.JumpOr, code.JumpAnd, code.Throw, code.Pop:
		return 1, 0
	case code.Push, code.This, code.ReadName, code.AskName, code.MakeArray, code.MakeObject, code.MakeRegex:
		return 0, 1
	case code.WriteName, code.Solid, code.ReadDot, code.DeleteDot, code.SkipElement:
		return 1, 1
	case code.Copy, code.MethodDot:
		return 1, 2
	case code.Place, code.MethodIndex:
		return 2, 2
	case code.CopyTwo:
		return 2, 4
	case code.Under:
		return in.Arg + 1, in.Arg + 1
	case code.JumpCase, code.ReadIndex, code.WriteDot, code.DeleteIndex, code.SetElement, code.SetProperty:
		return 2, 1
	case code.WriteIndex:
		return 3, 1
	case code.Call:
		return in.Arg + 2, 1
	case code.New:
		return in.Arg + 1, 1
	}
	if in.Op < code.Binary {
		return 1, 1
	}
	return 2, 1
}

// jumping: how many values a jump puts there, if it jumps.
func jumping(op code.Op) int {
	if op == code.JumpOr || op == code.JumpAnd {
		return 1
	}
	return 0
}

// Wherever an instruction is come from, as many values lie on the stack; none at the end; and no instruction takes more than there are.
func TestBalance(t *testing.T) {
	for _, src := range []string{
		"a.b = c[d] = e; a.b += 1; a[b] -= 2; a *= 3; a++; --a.b; a[b]--; ++a[b]; var x = 1, y, z = x++",
		"a && b || c ? d : e, f; typeof a; typeof a.b; void 0; delete a.b; delete a[b]; delete 5; !a; -a; +a; ~a",
		"[1, , a, [b]]; ({a: 1, b: {c: 2}}); /a/g; this; null; new A; new A(1, 2).b; a(); a.b(1); a[b](1, 2); (a, b)()",
		"if (a) b; else c; if (d) e; for (var i = 0; i < 1; i++) { if (a) continue; if (b) break } for (;;) break; while (a) do b; while (c)",
		"l: for (;;) { m: { switch (a) { case b: break; case c && d: continue l; default: break m; case 1: break l } } } switch (1) { } switch (a) { case 1: }",
		"throw a; a: b: while (1) { continue a; break b } x: ; y: { } a = b ? c : d, e && (f || g); a in b; a instanceof c",
	} {
		balanced(t, src, compiled(t, src))
	}
}

func balanced(t *testing.T, src string, c *code.Code) {
	deep := map[int]int{0: 0}
	work := []int{0}
	come := func(at, to, n int) {
		if was, met := deep[to]; !met {
			deep[to] = n
			work = append(work, to)
		} else if was != n {
			t.Fatalf("%s: at %d there are %d values, or %d (from %d)", src, to, was, n, at)
		}
	}
	for len(work) > 0 {
		at := work[len(work)-1]
		work = work[:len(work)-1]
		in := c.Instrs[at]
		takes, puts := effect(in)
		n := deep[at] - takes
		if n < 0 || in.Op == code.End && n != 0 {
			t.Fatalf("%s: at %d there are %d values", src, at, deep[at])
		}
		if in.Op >= code.Jump && in.Op <= code.JumpCase {
			come(at, in.Arg, n+jumping(in.Op))
		}
		if in.Op != code.Jump && in.Op != code.Throw && in.Op != code.End {
			come(at, at+1, n+puts)
		}
	}
}

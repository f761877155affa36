package code_test

import (
	"slices"
	"testing"

	"ecmacore/code"
	"ecmacore/parse"
)

func compiled(t *testing.T, src string) *code.Code {
	t.Helper()
	n, err := parse.Program(src)
	if err != nil {
		t.Fatal(err)
	}
	return code.Compile(n)
}

func ops(c *code.Code) []code.Op {
	var l []code.Op
	for _, in := range c.Instrs {
		l = append(l, in.Op)
	}
	return l
}

// The code of some programs, in which the order of things is seen.
func TestOps(t *testing.T) {
	for _, c := range []struct {
		src  string
		want []code.Op
	}{
		{"", []code.Op{code.End}},
		{"a.b = c", []code.Op{code.ReadName, code.Solid, code.ReadName, code.WriteDot, code.Pop, code.End}},
		{"a[b] += c", []code.Op{code.ReadName, code.ReadName, code.Place, code.CopyTwo, code.ReadIndex, code.ReadName, code.Add, code.WriteIndex, code.Pop, code.End}},
		{"a.b++", []code.Op{code.ReadName, code.Solid, code.Copy, code.ReadDot, code.ToNumber, code.Copy, code.Under, code.More, code.WriteDot, code.Pop, code.Pop, code.End}},
		{"--a", []code.Op{code.ReadName, code.ToNumber, code.Less, code.WriteName, code.Pop, code.End}},
		{"a.b(1)", []code.Op{code.ReadName, code.MethodDot, code.Push, code.Call, code.Pop, code.End}},
		{"var a = 1, b", []code.Op{code.Push, code.WriteName, code.Pop, code.End}},
		{"a(1)", []code.Op{code.Nothing, code.ReadName, code.Push, code.Call, code.Pop, code.End}},
		{"while (a) b", []code.Op{code.ReadName, code.JumpUnless, code.Step, code.ReadName, code.Pop, code.Jump, code.End}},
		{"do a; while (b)", []code.Op{code.Step, code.ReadName, code.Pop, code.ReadName, code.JumpIf, code.End}},
		{"for (a; b; c) d", []code.Op{code.ReadName, code.Pop, code.ReadName, code.JumpUnless, code.Step, code.ReadName, code.Pop, code.ReadName, code.Pop, code.Jump, code.End}},
		{"switch (a) { case 1: b }", []code.Op{code.ReadName, code.Push, code.JumpCase, code.Pop, code.Jump, code.ReadName, code.Pop, code.End}},
		{"function f() { }", []code.Op{code.End}},
		{"a = function () { }", []code.Op{code.MakeFunction, code.WriteName, code.Pop, code.End}},
		{"({get a() { }, set a(b) { }, c: 1})", []code.Op{code.MakeObject, code.MakeFunction, code.SetGet, code.MakeFunction, code.SetSet, code.Push, code.SetProperty, code.Pop, code.End}},
		{"for (a.b in c) d", []code.Op{code.ReadName, code.StartKeys, code.NextKey, code.Step, code.ReadName, code.Solid, code.PushKey, code.WriteDot, code.Pop, code.ReadName, code.Pop, code.Jump, code.EndKeys, code.End}},
		{"for (var a = 1 in b) break", []code.Op{code.Push, code.WriteName, code.Pop, code.ReadName, code.StartKeys, code.NextKey, code.Step, code.PushKey, code.WriteName, code.Pop, code.Jump, code.Jump, code.EndKeys, code.End}},
		{"try { a } catch (e) { e }", []code.Op{code.ReadName, code.Pop, code.Jump, code.EnterCatch, code.ReadVariable, code.Pop, code.LeaveCatch, code.End}},
		{"try { a } finally { b }", []code.Op{code.ReadName, code.Pop, code.Nothing, code.Visit, code.Pop, code.Jump, code.Push, code.ReadName, code.Pop, code.Resume, code.End}},
	} {
		if got := ops(compiled(t, c.src)); !slices.Equal(got, c.want) {
			t.Errorf("%s\n got %v\nwant %v", c.src, got, c.want)
		}
	}
}

// Every round of a loop passes a step: what goes backwards goes to one, or to a test in front of one.
func TestJumpsBack(t *testing.T) {
	c := compiled(t, "a: for (;;) { b: while (1) { do { if (x) continue a; if (y) continue b; if (z) continue; break } while (2) } switch (3) { case 4: continue; default: break a } for (c in d) { try { continue } finally { continue a } } }")
	for at, in := range c.Instrs {
		if !jumps(in.Op) || in.Arg > at {
			continue
		}
		if !slices.ContainsFunc(c.Instrs[in.Arg:at], func(in code.Instr) bool { return in.Op == code.Step }) {
			t.Errorf("%d goes back to %d without a step", at, in.Arg)
		}
	}
}

// Variables, in order, wherever they stand.
func TestDeclared(t *testing.T) {
	var got []string
	for _, k := range compiled(t, "a: { var c = 1, b } for (var a = 0; ; ) { if (1) var d; else do var e; while (0); break } switch (0) { default: var c, f } for (var g in 0) ; try { var h } catch (x) { var i } finally { var j } function k() { var no } (function l() { var no })").Declared {
		got = append(got, k.Text())
	}
	if want := []string{"c", "b", "a", "d", "e", "c", "f", "g", "h", "i", "j"}; !slices.Equal(got, want) {
		t.Errorf("declared %q", got)
	}
}

// P123: each place where a property is read or written by its name has a dot of its own; what is deleted, and an Index, has none.
func TestDots(t *testing.T) {
	c := compiled(t, "a.b.c = d.e(f.g); h.i += 1; --j.k; l.m++; for (n.o in p.q) r['s']; delete t.u.v; new w.x; typeof y.z; ({a: 1, get b() { return this.not }})")
	var reads, writes []string
	for _, d := range c.Dots {
		if d.Writes {
			writes = append(writes, d.Name)
		} else {
			reads = append(reads, d.Name)
		}
	}
	if !slices.Equal(reads, []string{"b", "e", "g", "i", "k", "m", "q", "u", "x", "z"}) || !slices.Equal(writes, []string{"c", "i", "k", "m", "o"}) {
		t.Errorf("reads %q, writes %q", reads, writes)
	}
	met := map[int]int{}
	for _, in := range c.Instrs {
		switch in.Op {
		case code.ReadDot, code.MethodDot, code.WriteDot:
			met[in.Arg]++
			if c.Dots[in.Arg].Writes != (in.Op == code.WriteDot) {
				t.Errorf("dot %d", in.Arg)
			}
		}
	}
	if len(met) != len(c.Dots) {
		t.Errorf("%d dots for %d places", len(met), len(c.Dots))
	}
	if inner := c.Functions[0].Dots; len(inner) != 1 || inner[0].Name != "not" {
		t.Errorf("%+v", inner)
	}
}

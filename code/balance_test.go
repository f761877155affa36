package code_test

import (
	"testing"

	"ecmacore/code"
)

// state: what was begun at an instruction and not ended: values on the stack, catches, for ins.
type state struct {
	values, catches, forIns int
}

// jumps: whether it may go on at its Arg.
func jumps(op code.Op) bool {
	return op >= code.Jump && op <= code.JumpCase || op == code.NextKey || op == code.Visit
}

// stops: whether what stands behind it in the code is not what is done next.
func stops(op code.Op) bool {
	switch op {
	case code.End, code.Return, code.Throw, code.Jump, code.Resume, code.RefuseVariable:
		return true
	}
	return false
}

// effect: how many values an instruction takes, and how many it puts there, if it does not jump. (What stands behind a Visit is come to when the block has been left.)
func effect(in code.Instr) (takes, puts int) {
	switch in.Op {
	case code.Jump, code.Step, code.End, code.LeaveCatch, code.NextKey, code.EndKeys:
		return 0, 0
	case code.JumpIf, code.JumpUnless, code.JumpOr, code.JumpAnd, code.Throw, code.Pop, code.Return, code.EnterCatch, code.StartKeys, code.RefuseVariable:
		return 1, 0
	case code.Resume:
		return 2, 0
	case code.Nothing, code.Push, code.This, code.ReadName, code.AskName, code.ReadVariable, code.MakeArray, code.MakeObject, code.MakeRegex, code.MakeFunction, code.PushKey:
		return 0, 1
	case code.WriteName, code.WriteVariable, code.Solid, code.ReadDot, code.DeleteDot, code.SkipElement, code.Visit:
		return 1, 1
	case code.Copy, code.MethodDot:
		return 1, 2
	case code.Place, code.MethodIndex:
		return 2, 2
	case code.CopyTwo:
		return 2, 4
	case code.Under:
		return in.Arg + 1, in.Arg + 1
	case code.JumpCase, code.ReadIndex, code.WriteDot, code.DeleteIndex, code.SetElement, code.SetProperty, code.SetGet, code.SetSet:
		return 2, 1
	case code.WriteIndex:
		return 3, 1
	case code.Call:
		return in.Arg + 2, 1
	case code.New:
		return in.Arg + 1, 1
	}
	if in.Op < code.Binary {
		return 1, 1
	}
	return 2, 1
}

// jumping: how many values a jump puts there, if it jumps.
func jumping(op code.Op) int {
	switch op {
	case code.JumpOr, code.JumpAnd:
		return 1
	case code.Visit:
		return 2
	}
	return 0
}

// behind: the state behind an instruction, but for values.
func (s state) behind(op code.Op) state {
	switch op {
	case code.EnterCatch:
		s.catches++
	case code.LeaveCatch:
		s.catches--
	case code.StartKeys:
		s.forIns++
	case code.EndKeys:
		s.forIns--
	}
	return s
}

// Wherever an instruction is come from, as much was begun; no instruction ends more than that; and at the end there is nothing.
func TestBalance(t *testing.T) {
	for _, src := range []string{
		"a.b = c[d] = e; a.b += 1; a[b] -= 2; a *= 3; a++; --a.b; a[b]--; ++a[b]; var x = 1, y, z = x++",
		"a && b || c ? d : e, f; typeof a; typeof a.b; void 0; delete a.b; delete a[b]; delete 5; !a; -a; +a; ~a",
		"[1, , a, [b]]; ({a: 1, b: {c: 2}}); /a/g; this; null; new A; new A(1, 2).b; a(); a.b(1); a[b](1, 2); (a, b)()",
		"if (a) b; else c; if (d) e; for (var i = 0; i < 1; i++) { if (a) continue; if (b) break } for (;;) break; while (a) do b; while (c)",
		"l: for (;;) { m: { switch (a) { case b: break; case c && d: continue l; default: break m; case 1: break l } } } switch (1) { } switch (a) { case 1: }",
		"throw a; a: b: while (1) { continue a; break b } x: ; y: { } a = b ? c : d, e && (f || g); a in b; a instanceof c",
		"(function (a) { return a; return; a++; a += 1; --a; typeof a }); (function f() { f = 1; f += 2; for (f in f) f--; return f }); ({get a() { return 1 }, set a(b) { b }})",
		"for (a in b) c; for (a.b in c) { if (d) continue; break } l: for (a[b] in c) for (var d in e) { if (f) continue l; if (g) break l; continue }",
		"try { a } catch (e) { b } try { a } finally { b } try { a } catch (e) { e = 1 } finally { b } try { } catch (e) { } finally { }",
		"l: for (;;) try { if (a) continue l; if (b) break l; throw c } catch (e) { if (a) continue; if (b) break; e } finally { if (a) continue; if (b) break l; d }",
		"(function () { try { return a } finally { b } }); (function () { try { a } finally { return b } }); (function () { for (var k in a) try { return k } catch (e) { return e } finally { if (a) return; if (b) continue; if (c) break } })",
		"(function () { try { try { return 1 } finally { try { return 2 } finally { return 3 } } } finally { l: for (k in a) { try { break l } finally { try { continue l } finally { return 4 } } } } })",
		"m: { try { l: for (a in b) try { try { break m } catch (x) { try { break l } catch (y) { continue l } } } finally { for (c in d) try { break m } finally { continue l } } } finally { break m } }",
	} {
		balanced(t, src, compiled(t, src))
	}
}

// walked: which state was met at each instruction, and which of them are to be gone on from.
type walked struct {
	met  map[int]state
	work []int
}

func (w *walked) come(t *testing.T, src string, to int, s state) {
	t.Helper()
	if was, met := w.met[to]; !met {
		w.met[to] = s
		w.work = append(w.work, to)
	} else if was != s {
		t.Fatalf("%s: at %d there is %+v, or %+v", src, to, was, s)
	}
}

func balanced(t *testing.T, src string, c *code.Code) {
	t.Helper()
	w := &walked{met: map[int]state{}}
	w.come(t, src, 0, state{})
	for _, g := range c.Guards {
		w.come(t, src, g.Target, state{values: g.Values + 1, catches: g.Catches, forIns: g.ForIns})
	}
	for len(w.work) > 0 {
		at := w.work[len(w.work)-1]
		w.work = w.work[:len(w.work)-1]
		w.from(t, src, c, at)
	}
	guarded(t, src, c, w)
	for _, f := range c.Functions {
		balanced(t, src, f)
	}
}

func (w *walked) from(t *testing.T, src string, c *code.Code, at int) {
	t.Helper()
	in := c.Instrs[at]
	takes, puts := effect(in)
	s := w.met[at].behind(in.Op)
	s.values -= takes
	switch {
	case s.values < 0 || s.catches < 0 || s.forIns < 0:
		t.Fatalf("%s: at %d there is %+v", src, at, w.met[at])
	case in.Op == code.End && s != state{}, in.Op == code.Return && s != state{}:
		t.Fatalf("%s: at the end, %d, there is %+v", src, at, w.met[at])
	}
	if jumps(in.Op) {
		w.come(t, src, in.Arg, state{values: s.values + jumping(in.Op), catches: s.catches, forIns: s.forIns})
	}
	if !stops(in.Op) {
		w.come(t, src, at+1, state{values: s.values + puts, catches: s.catches, forIns: s.forIns})
	}
}

// guarded: what a guard finds there has at least what it leaves.
func guarded(t *testing.T, src string, c *code.Code, w *walked) {
	t.Helper()
	for at, s := range w.met {
		g, has := c.GuardOf(at)
		if has && !leaves(c.Instrs[at].Op) && (s.values < g.Values || s.catches < g.Catches || s.forIns < g.ForIns) {
			t.Errorf("%s: at %d there is %+v, and its guard is %+v", src, at, s, g)
		}
	}
}

// leaves: instructions on the way out of regions, which throw nothing.
func leaves(op code.Op) bool {
	switch op {
	case code.Nothing, code.Pop, code.Under, code.Jump, code.Visit, code.LeaveCatch, code.EndKeys, code.Return:
		return true
	}
	return false
}

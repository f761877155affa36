package machine

import (
	"testing"

	"ecmacore/api"
	"ecmacore/code"
	"ecmacore/heap"
	"ecmacore/parse"
)

// watched: a machine with a function empty, of which each call tells how many values lie on the stack, calls are being done and things are held.
func watched(see func(m *Machine)) *Machine {
	m := New()
	empty := m.MakeFunction(0, &Function{Call: func(m *Machine, _ heap.Value, _ []heap.Value) heap.Value {
		see(m)
		return heap.Value{}
	}})
	m.Define(m.Global, heap.KeyOf("empty"), heap.Whole(heap.Of(empty), heap.AllFlags()))
	return m
}

func compiled(t *testing.T, src string) *code.Code {
	t.Helper()
	n, err := parse.Program(src)
	if err != nil {
		t.Fatal(err)
	}
	return code.Compile(n)
}

// Between statements nothing lies on the stack, whatever was done ahead of them.
func TestEmptyBetween(t *testing.T) {
	calls := 0
	m := watched(func(m *Machine) {
		calls++
		if len(m.stack) != 0 {
			t.Errorf("call %d: %d values", calls, len(m.stack))
		}
	})
	c := compiled(t, `var a = 1, o = {x: 1}, l = [2, , 3]; empty();
		a++; --a; o.x += a; o['x']++; l[0] -= 1; delete o.x; delete l[0]; typeof zz; void a; a && o || l; a ? o : l; (a, o); empty();
		if (a) empty(); else ; empty(); throws: { break throws } empty();
		for (var i = 0; i < 4; i++) { switch (i) { case 0: break; case 1: continue; default: empty(); case 3: empty() } empty() } empty();
		b: do { for (;;) { switch (a) { case a: continue b } } } while (a++ < 3); empty();
		while (a--) { if (a) continue; break } empty(); new empty.none`)
	if r := m.Run(c, 1000); r.How != api.Thrown || calls != 14 || m.stack != nil || m.calls != 0 {
		t.Errorf("%+v, %d calls", r, calls)
	}
}

// Behind what was caught, and out of every region, all is as it was: the stack, the calls, what is shut, scopes and for ins.
func TestRestored(t *testing.T) {
	calls := 0
	m := watched(func(m *Machine) {
		calls++
		f := m.frame
		if len(m.stack) != 0 || m.calls != 1 || m.shut != 1 || f.outer != nil || f.scope != nil || f.catches != 0 || len(f.walks) != 0 {
			t.Errorf("call %d: %d values, %d calls, %d shut, %+v", calls, len(m.stack), m.calls, m.shut, f)
		}
	})
	c := compiled(t, `function f(n) { if (n) return f(n - 1) + 1; throw 1 }
		function g() { for (var k in {a: 1}) try { return [1, f(3)] } finally { l: for (;;) try { throw 2 } finally { break l } } }
		var o = {get x() { return f(2) }, valueOf: function () { return g() }};
		try { [1, [2, f(5)]] } catch (e) { } empty();
		try { 1 + o.x } catch (e) { } empty(); try { 2 * (3 + o) } catch (e) { } empty(); try { empty([1].join(o)) } catch (e) { } empty(); try { new f(2) } catch (e) { } empty();
		for (var i = 0; i < 3; i++) try { for (var k in {a: 1}) for (var j in {b: 1}) try { throw 1 } catch (e) { try { throw 2 } catch (e) { if (i == 0) break; if (i == 1) throw 3; f(1) } } } catch (e) { }
		empty(); l: for (k in {a: 1}) try { for (j in {b: 1}) try { throw 1 } catch (e) { break l } finally { } } finally { for (i in {c: 1}) try { f(1) } finally { continue l } } empty();
		(function () { try { for (var k in {a: 1}) try { throw 1 } catch (e) { return f(1) } finally { throw 2 } } catch (e) { } })(); empty()`)
	if r := m.Run(c, 1000); r.How != api.Ended || calls != 8 || m.stack != nil || m.calls != 0 || m.shut != 0 || m.frame != nil {
		t.Errorf("%+v, %d calls", r, calls)
	}
}

package machine

import (
	"testing"

	"ecmacore/api"
	"ecmacore/code"
	"ecmacore/heap"
	"ecmacore/parse"
)

// Between statements nothing lies on the stack, whatever was done ahead of them.
func TestEmptyBetween(t *testing.T) {
	m := New()
	calls := 0
	empty := m.MakeFunction(0, &Function{Call: func(m *Machine, _ heap.Value, _ []heap.Value) heap.Value {
		calls++
		if len(m.stack) != 0 {
			t.Errorf("call %d: %d values", calls, len(m.stack))
		}
		return heap.Value{}
	}})
	m.Define(m.Global, heap.KeyOf("empty"), heap.Whole(heap.Of(empty), heap.AllFlags()))
	n, err := parse.Program(`var a = 1, o = {x: 1}, l = [2, , 3]; empty();
		a++; --a; o.x += a; o['x']++; l[0] -= 1; delete o.x; delete l[0]; typeof zz; void a; a && o || l; a ? o : l; (a, o); empty();
		if (a) empty(); else ; empty(); throws: { break throws } empty();
		for (var i = 0; i < 4; i++) { switch (i) { case 0: break; case 1: continue; default: empty(); case 3: empty() } empty() } empty();
		b: do { for (;;) { switch (a) { case a: continue b } } } while (a++ < 3); empty();
		while (a--) { if (a) continue; break } empty(); new empty.none`)
	if err != nil {
		t.Fatal(err)
	}
	if r := m.Run(code.Compile(n), 1000); r.How != api.Thrown || calls != 14 || m.stack != nil || m.calls != 0 {
		t.Errorf("%+v, %d calls", r, calls)
	}
}

package machine_test

import (
	"slices"
	"testing"

	"ecmacore/heap"
	"ecmacore/machine"
)

// P93: a function that is bound, and one that is bound to it, call the other on the first value, with all arguments, which they keep.
func TestBind(t *testing.T) {
	m := machine.New()
	var this heap.Value
	var args []heap.Value
	f := function(m, &this, &args, heap.Number(7))
	given := []heap.Value{heap.Number(1), heap.Number(2)}
	b := m.Bind(f, 3, heap.String("on"), given)
	given[0] = heap.Null()
	c := m.Bind(b, 0, heap.String("never"), []heap.Value{heap.Number(3)})
	for _, k := range []struct {
		f    *heap.Object
		with []heap.Value
		want []heap.Value
	}{
		{b, nil, []heap.Value{heap.Number(1), heap.Number(2)}},
		{b, []heap.Value{heap.Number(5)}, []heap.Value{heap.Number(1), heap.Number(2), heap.Number(5)}},
		{c, []heap.Value{heap.Number(5)}, []heap.Value{heap.Number(1), heap.Number(2), heap.Number(3), heap.Number(5)}},
		{b, nil, []heap.Value{heap.Number(1), heap.Number(2)}},
	} {
		v := m.Call(k.f, heap.String("another"), k.with...)
		if v != heap.Number(7) || this != heap.String("on") || !slices.Equal(args, k.want) {
			t.Errorf("%+v, on %+v with %+v", v, this, args)
		}
		clear(args)
	}
	if !machine.IsFunction(heap.Of(b)) || b.Proto != m.Prototypes.Function || m.Get(heap.Of(b), heap.KeyOf("length")) != heap.Number(3) || len(b.Keys()) != 1 {
		t.Errorf("%+v", b.Keys())
	}
}

package machine

import (
	"slices"

	"ecmacore/heap"
)

// bound is what a function does that is bound to another: it calls that one, on a value, and with arguments ahead of those that it is given.
type bound struct {
	target *heap.Object
	this   heap.Value
	args   []heap.Value
}

// Hold: what it calls, and with what.
func (b *bound) Hold(k *heap.Marker) {
	k.Object(b.target)
	k.Value(b.this)
	for _, v := range b.args {
		k.Value(v)
	}
}

// Bind: a new function that is bound to another.
func (m *Machine) Bind(f *heap.Object, length int, this heap.Value, args []heap.Value) *heap.Object {
	o := m.Make(FunctionClass, m.Prototypes.Function)
	m.becomeFunction(o, length, &bound{target: f, this: this, args: slices.Clone(args)})
	return o
}

// unbound: which function is called in the end, on what, and with what. Functions can be bound to bound ones in a long row: so none of these calls lies within another.
func unbound(f *heap.Object, this heap.Value, args []heap.Value) (*heap.Object, heap.Value, []heap.Value) {
	b, is := f.Inner.(*bound)
	if !is {
		return f, this, args
	}
	lists := [][]heap.Value{args}
	for ; is; b, is = f.Inner.(*bound) {
		lists = append(lists, b.args)
		f, this = b.target, b.this
	}
	slices.Reverse(lists)
	return f, this, slices.Concat(lists...)
}

// target: the function to which one is bound in the end; itself, if it is not bound.
func target(f *heap.Object) *heap.Object {
	for {
		b, is := f.Inner.(*bound)
		if !is {
			return f
		}
		f = b.target
	}
}

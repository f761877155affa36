// Package library: the functions that programs find in a world: see chapter 8. They do things in the order in which the chapter tells them.
package library

import (
	"ecmacore/heap"
	"ecmacore/machine"
)

// Fill: the global object and the prototypes of a machine get what every world has.
func Fill(m *machine.Machine) {
	fillGlobal(m)
	fillErrors(m)
	fillObject(m)
	fillFunction(m)
	fillArray(m)
	fillBoxes(m)
}

// callee is what a function of the library does when it is called.
type callee = func(m *machine.Machine, this heap.Value, args []heap.Value) heap.Value

// usual: the flags of most of the library's properties.
func usual() heap.Traits { return heap.Traits{Writable: true, Configurable: true} }

func set(m *machine.Machine, o *heap.Object, name string, v heap.Value, flags heap.Traits) {
	m.Define(o, heap.Key{Name: name}, heap.Whole(v, flags))
}

// setFunction: one that makes nothing.
func setFunction(m *machine.Machine, o *heap.Object, name string, length int, call callee) {
	f := m.MakeFunction(length, &machine.Function{Call: call})
	set(m, o, name, heap.Of(f), usual())
}

func get(m *machine.Machine, o *heap.Object, name string) heap.Value {
	return m.Get(heap.Of(o), heap.Key{Name: name})
}

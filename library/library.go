// Package library: the functions that programs find in a world: see chapters 8 and 9. They do things in the order in which the chapters tell them.
package library

import (
	"ecmacore/heap"
	"ecmacore/machine"
)

// Fill: the global object and the prototypes of a machine get what worlds of a level have.
func Fill(m *machine.Machine, level int) {
	fillGlobal(m)
	fillErrors(m)
	fillObject(m)
	fillFunction(m)
	fillArray(m)
	fillBoxes(m)
	if level >= 1 {
		completeObject(m)
		completeFunction(m)
		completeArray(m)
	}
}

// callee is what a function of the library does when it is called.
type callee = func(m *machine.Machine, this heap.Value, args []heap.Value) heap.Value

// maker is what a constructor does that makes no difference between a call and new.
type maker func(m *machine.Machine, args []heap.Value) heap.Value

func (k maker) called(m *machine.Machine, _ heap.Value, args []heap.Value) heap.Value {
	return k(m, args)
}

// usual: the flags of most of the library's properties.
func usual() heap.Traits { return heap.Traits{Writable: true, Configurable: true} }

func set(m *machine.Machine, o *heap.Object, name string, v heap.Value, flags heap.Traits) {
	m.Define(o, heap.Key{Name: name}, heap.Whole(v, flags))
}

// setFunction: one that makes nothing.
func setFunction(m *machine.Machine, o *heap.Object, name string, length int, call callee) {
	f := m.MakeFunction(length, &machine.Function{Call: call})
	set(m, o, name, heap.Of(f), usual())
}

// setConstructor: a global one, with its prototype.
func setConstructor(m *machine.Machine, name string, prototype *heap.Object, made maker) *heap.Object {
	f := m.MakeFunction(1, &machine.Function{Call: made.called, New: made})
	set(m, m.Global, name, heap.Of(f), usual())
	set(m, f, "prototype", heap.Of(prototype), heap.Traits{})
	set(m, prototype, "constructor", heap.Of(f), usual())
	return f
}

func get(m *machine.Machine, o *heap.Object, name string) heap.Value {
	return m.Get(heap.Of(o), heap.Key{Name: name})
}

// needFunction: TypeError, if a value is none.
func needFunction(m *machine.Machine, v heap.Value) *heap.Object {
	if !machine.IsFunction(v) {
		panic(m.TypeError())
	}
	return v.Ref
}

// behind: the arguments behind the first n.
func behind(args []heap.Value, n int) []heap.Value { return args[min(n, len(args)):] }

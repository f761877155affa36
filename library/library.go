// Package library: the functions that programs find in a world: see chapters 8 to 10. They do things in the order in which the chapters tell them.
package library

import (
	"ecmacore/heap"
	"ecmacore/machine"
	"ecmacore/num"
)

// Fill: the global object and the prototypes of a machine get what worlds of a level have.
func Fill(m *machine.Machine, level int) {
	fillGlobal(m)
	fillErrors(m)
	fillObject(m)
	fillFunction(m)
	fillArray(m)
	fillBoxes(m)
	if level >= 1 {
		completeObject(m)
		completeFunction(m)
		completeArray(m)
	}
	if level >= 2 {
		completeGlobal(m)
		completeString(m)
		completeNumber(m)
		completeBoolean(m)
		fillMath(m)
		completeRegExp(m)
	}
	if level >= 3 {
		fillJSON(m)
	}
}

// callee is what a function of the library does when it is called.
type callee = func(m *machine.Machine, this heap.Value, args []heap.Value) heap.Value

// maker is what a constructor does that makes no difference between a call and new.
type maker func(m *machine.Machine, args []heap.Value) heap.Value

func (k maker) called(m *machine.Machine, _ heap.Value, args []heap.Value) heap.Value {
	return k(m, args)
}

// boxed is what new does of one that gives a string, a number or a boolean.
func (k maker) boxed(m *machine.Machine, args []heap.Value) heap.Value {
	return heap.Of(m.Object(k(m, args)))
}

// usual: the flags of most of the library's properties.
func usual() heap.Traits { return heap.Traits{Writable: true, Configurable: true} }

func set(m *machine.Machine, o *heap.Object, name string, v heap.Value, flags heap.Traits) {
	m.Define(o, heap.Key{Name: name}, heap.Whole(v, flags))
}

// setFunction: one that makes nothing.
func setFunction(m *machine.Machine, o *heap.Object, name string, length int, call callee) {
	f := m.MakeFunction(length, &machine.Function{Call: call})
	set(m, o, name, heap.Of(f), usual())
}

// setConstructor: one that makes no difference between a call and new.
func setConstructor(m *machine.Machine, name string, prototype *heap.Object, made maker) *heap.Object {
	return setMaker(m, name, 1, prototype, &machine.Function{Call: made.called, New: made})
}

// setBoxer: one that gives a value, and with new an object of it.
func setBoxer(m *machine.Machine, name string, prototype *heap.Object, made maker) *heap.Object {
	return setMaker(m, name, 1, prototype, &machine.Function{Call: made.called, New: made.boxed})
}

// setMaker: a global constructor, with its prototype.
func setMaker(m *machine.Machine, name string, length int, prototype *heap.Object, made *machine.Function) *heap.Object {
	f := m.MakeFunction(length, made)
	set(m, m.Global, name, heap.Of(f), usual())
	set(m, f, "prototype", heap.Of(prototype), heap.Traits{})
	set(m, prototype, "constructor", heap.Of(f), usual())
	return f
}

func get(m *machine.Machine, o *heap.Object, name string) heap.Value {
	return m.Get(heap.Of(o), heap.Key{Name: name})
}

// integer: a value as a number, as integer.
func integer(m *machine.Machine, v heap.Value) float64 { return num.Int(m.Number(v)) }

// needFunction: TypeError, if a value is none.
func needFunction(m *machine.Machine, v heap.Value) *heap.Object {
	if !machine.IsFunction(v) {
		panic(m.TypeError())
	}
	return v.Ref
}

// behind: the arguments behind the first n.
func behind(args []heap.Value, n int) []heap.Value { return args[min(n, len(args)):] }

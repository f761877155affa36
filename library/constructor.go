package library

import (
	"slices"

	"ecmacore/api"
	"ecmacore/heap"
	"ecmacore/machine"
)

// worker is what a function of Object's does with an object, its first argument.
type worker = func(m *machine.Machine, o *heap.Object, args []heap.Value) heap.Value

// fillConstructor: the functions that Object itself has.
func fillConstructor(m *machine.Machine, f *heap.Object) {
	setWorker(m, f, "getPrototypeOf", 1, prototypeOf)
	setWorker(m, f, "getOwnPropertyDescriptor", 2, describe)
	setWorker(m, f, "getOwnPropertyNames", 1, allKeys)
	setFunction(m, f, "create", 2, create)
	setWorker(m, f, "defineProperty", 3, define)
	setWorker(m, f, "defineProperties", 2, defineSeveral)
	setWorker(m, f, "seal", 1, seal)
	setWorker(m, f, "freeze", 1, freeze)
	setWorker(m, f, "preventExtensions", 1, fix)
	setWorker(m, f, "isSealed", 1, isSealed)
	setWorker(m, f, "isFrozen", 1, isFrozen)
	setWorker(m, f, "isExtensible", 1, isExtensible)
	setWorker(m, f, "keys", 1, enumerableKeys)
}

// setWorker: its first argument must be an object, which is asked ahead of all else.
func setWorker(m *machine.Machine, f *heap.Object, name string, length int, work worker) {
	setFunction(m, f, name, length, func(m *machine.Machine, _ heap.Value, args []heap.Value) heap.Value {
		v := machine.Arg(args, 0)
		if v.Kind != api.Object {
			panic(m.TypeError())
		}
		return work(m, v.Ref, args)
	})
}

func prototypeOf(_ *machine.Machine, o *heap.Object, _ []heap.Value) heap.Value {
	if o.Proto == nil {
		return heap.Null()
	}
	return heap.Of(o.Proto)
}

func create(m *machine.Machine, _ heap.Value, args []heap.Value) heap.Value {
	first := machine.Arg(args, 0)
	if first.Kind != api.Object && first.Kind != api.Null {
		panic(m.TypeError())
	}
	o := m.Make(machine.ObjectClass, first.Ref)
	if machine.Arg(args, 1).Kind == api.Undefined {
		return heap.Of(o)
	}
	return defineSeveral(m, o, args)
}

func allKeys(m *machine.Machine, o *heap.Object, _ []heap.Value) heap.Value {
	return keyList(m, o.Keys())
}

func enumerableKeys(m *machine.Machine, o *heap.Object, _ []heap.Value) heap.Value {
	return keyList(m, enumerableOf(o))
}

// enumerableOf: the keys of an object's own properties that are enumerable.
func enumerableOf(o *heap.Object) []heap.Key {
	return slices.DeleteFunc(o.Keys(), func(k heap.Key) bool {
		p, _ := o.Own(k)
		return !p.Enumerable
	})
}

func keyList(m *machine.Machine, keys []heap.Key) heap.Value {
	l := newArray(m)
	for _, k := range keys {
		l.add(heap.String(k.Text()))
	}
	return l.value()
}

func seal(m *machine.Machine, o *heap.Object, args []heap.Value) heap.Value {
	for _, k := range o.Keys() {
		m.Define(o, k, heap.Told{HasConfigurable: true})
	}
	return fix(m, o, args)
}

func freeze(m *machine.Machine, o *heap.Object, args []heap.Value) heap.Value {
	for _, k := range o.Keys() {
		p, _ := o.Own(k)
		m.Define(o, k, heap.Told{HasConfigurable: true, HasWritable: !p.Functions})
	}
	return fix(m, o, args)
}

func fix(_ *machine.Machine, o *heap.Object, _ []heap.Value) heap.Value {
	o.Fixed = true
	return heap.Of(o)
}

func isSealed(_ *machine.Machine, o *heap.Object, _ []heap.Value) heap.Value {
	return fixedWithout(o, func(p heap.Property) bool { return p.Configurable })
}

func isFrozen(_ *machine.Machine, o *heap.Object, _ []heap.Value) heap.Value {
	return fixedWithout(o, func(p heap.Property) bool { return p.Configurable || p.Writable })
}

// fixedWithout: whether an object is fixed, and has no property that is loose.
func fixedWithout(o *heap.Object, loose func(p heap.Property) bool) heap.Value {
	for _, k := range o.Keys() {
		if p, _ := o.Own(k); loose(p) {
			return heap.Boolean(false)
		}
	}
	return heap.Boolean(o.Fixed)
}

func isExtensible(_ *machine.Machine, o *heap.Object, _ []heap.Value) heap.Value {
	return heap.Boolean(!o.Fixed)
}

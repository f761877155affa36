package library

import (
	"ecmacore/api"
	"ecmacore/heap"
	"ecmacore/machine"
)

// describe: an object that tells all of a property.
func describe(m *machine.Machine, o *heap.Object, args []heap.Value) heap.Value {
	p, has := o.Own(m.Key(machine.Arg(args, 1)))
	if !has {
		return heap.Value{}
	}
	d := newObject(m)
	if p.Functions {
		set(m, d, "get", functionOrNone(p.Get), heap.AllFlags())
		set(m, d, "set", functionOrNone(p.Set), heap.AllFlags())
	} else {
		set(m, d, "value", p.Value, heap.AllFlags())
		set(m, d, "writable", heap.Boolean(p.Writable), heap.AllFlags())
	}
	set(m, d, "enumerable", heap.Boolean(p.Enumerable), heap.AllFlags())
	set(m, d, "configurable", heap.Boolean(p.Configurable), heap.AllFlags())
	return heap.Of(d)
}

func functionOrNone(f *heap.Object) heap.Value {
	if f == nil {
		return heap.Value{}
	}
	return heap.Of(f)
}

func define(m *machine.Machine, o *heap.Object, args []heap.Value) heap.Value {
	k := m.Key(machine.Arg(args, 1))
	m.Define(o, k, told(m, machine.Arg(args, 2)))
	return heap.Of(o)
}

// defineSeveral: all are told ahead of the first that is defined.
func defineSeveral(m *machine.Machine, o *heap.Object, args []heap.Value) heap.Value {
	from := m.Object(machine.Arg(args, 1))
	keys := enumerableOf(from)
	all := make([]heap.Told, len(keys))
	for i, k := range keys {
		all[i] = told(m, m.Get(heap.Of(from), k))
	}
	for i, k := range keys {
		m.Define(o, k, all[i])
	}
	return heap.Of(o)
}

// told: what an object tells of a property.
func told(m *machine.Machine, v heap.Value) heap.Told {
	if v.Kind != api.Object {
		panic(m.TypeError())
	}
	var t heap.Told
	t.Enumerable, t.HasEnumerable = toldFlag(m, v.Ref, "enumerable")
	t.Configurable, t.HasConfigurable = toldFlag(m, v.Ref, "configurable")
	t.Value, t.HasValue = toldValue(m, v.Ref, "value")
	t.Writable, t.HasWritable = toldFlag(m, v.Ref, "writable")
	t.Get, t.HasGet = toldFunction(m, v.Ref, "get")
	t.Set, t.HasSet = toldFunction(m, v.Ref, "set")
	if (t.HasGet || t.HasSet) && (t.HasValue || t.HasWritable) {
		panic(m.TypeError())
	}
	return t
}

func toldValue(m *machine.Machine, o *heap.Object, name string) (heap.Value, bool) {
	if !machine.Has(o, heap.Key{Name: name}) {
		return heap.Value{}, false
	}
	return get(m, o, name), true
}

func toldFlag(m *machine.Machine, o *heap.Object, name string) (bool, bool) {
	v, has := toldValue(m, o, name)
	return machine.Truth(v), has
}

// toldFunction: undefined tells that there is none.
func toldFunction(m *machine.Machine, o *heap.Object, name string) (*heap.Object, bool) {
	v, has := toldValue(m, o, name)
	if v.Kind == api.Undefined {
		return nil, has
	}
	return needFunction(m, v), has
}

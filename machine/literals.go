package machine

import (
	"ecmacore/code"
	"ecmacore/heap"
)

// literals: objects that are written out in the program.
func (m *Machine) literals(f *frame, in code.Instr) {
	switch in.Op {
	case code.MakeArray:
		m.push(heap.Of(m.Make(heap.Array, m.Prototypes.Array)))
	case code.SetElement:
		m.setInto(heap.Key{Place: uint32(in.Arg), IsPlace: true})
	case code.SkipElement:
		m.Define(m.top(0).Ref, lengthKey(), heap.ValueAlone(heap.Number(float64(in.Arg)+1)))
	case code.MakeObject:
		m.push(heap.Of(m.Make(ObjectClass, m.Prototypes.Object)))
	case code.SetProperty:
		m.setInto(f.code.Keys[in.Arg])
	case code.SetGet, code.SetSet:
		m.setFunction(in.Op, f.code.Keys[in.Arg])
	case code.MakeRegex:
		p := f.code.Patterns[in.Arg]
		m.push(heap.Of(m.MakePattern(&Pattern{Source: p.Source, Flags: p.Flags, compiled: p.Compiled})))
	case code.MakeFunction:
		m.push(m.makeClosure(f.code.Functions[in.Arg], f.scope))
	}
}

// setInto: the top becomes a property of the object beneath it.
func (m *Machine) setInto(k heap.Key) {
	v := m.pop()
	m.Define(m.top(0).Ref, k, heap.Whole(v, heap.AllFlags()))
}

// setFunction: the top becomes one of the two functions of a property.
func (m *Machine) setFunction(op code.Op, k heap.Key) {
	f := m.pop().Ref
	told := heap.Told{HasEnumerable: true, HasConfigurable: true}
	told.Enumerable, told.Configurable = true, true
	if op == code.SetGet {
		told.HasGet, told.Get = true, f
	} else {
		told.HasSet, told.Set = true, f
	}
	m.Define(m.top(0).Ref, k, told)
}

package library

import (
	"ecmacore/api"
	"ecmacore/heap"
	"ecmacore/machine"
	"ecmacore/num"
)

func fillArray(m *machine.Machine) {
	p := m.Prototypes.Array
	setFunction(m, p, "toString", 0, arrayText)
	setFunction(m, p, "join", 1, join)
}

func arrayText(m *machine.Machine, this heap.Value, _ []heap.Value) heap.Value {
	o := m.Object(this)
	f := get(m, o, "join")
	if !machine.IsFunction(f) {
		return classText(o.Class)
	}
	return m.Call(f.Ref, heap.Of(o))
}

func join(m *machine.Machine, this heap.Value, args []heap.Value) heap.Value {
	o := m.Object(this)
	length := lengthOf(m, o)
	between := textOr(m, machine.Arg(args, 0), ",")
	var text machine.Text
	for n := range length {
		m.Step()
		if n > 0 {
			text.Add(m, between)
		}
		v := m.Get(heap.Of(o), heap.Key{Place: n, IsPlace: true})
		if v.Kind != api.Undefined && v.Kind != api.Null {
			text.Add(m, m.String(v))
		}
	}
	return text.Value()
}

// lengthOf a list: as its length says.
func lengthOf(m *machine.Machine, o *heap.Object) uint32 {
	return num.Uint32(m.Number(get(m, o, "length")))
}

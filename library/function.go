package library

import (
	"ecmacore/api"
	"ecmacore/heap"
	"ecmacore/machine"
)

func fillFunction(m *machine.Machine) {
	setFunction(m, m.Prototypes.Function, "toString", 0, functionText)
}

func functionText(m *machine.Machine, this heap.Value, _ []heap.Value) heap.Value {
	needFunction(m, this)
	return heap.String("function () { [code] }")
}

// completeFunction: what there is from level 1 on.
func completeFunction(m *machine.Machine) {
	p := m.Prototypes.Function
	setConstructor(m, "Function", p, refuseFunction)
	setFunction(m, p, "apply", 2, apply)
	setFunction(m, p, "call", 1, call)
	setFunction(m, p, "bind", 1, bind)
}

// refuseFunction: there are no functions of texts.
func refuseFunction(m *machine.Machine, _ []heap.Value) heap.Value { panic(m.TypeError()) }

func apply(m *machine.Machine, this heap.Value, args []heap.Value) heap.Value {
	f := needFunction(m, this)
	return m.Call(f, machine.Arg(args, 0), listed(m, machine.Arg(args, 1))...)
}

// listed: the arguments that a value lists.
func listed(m *machine.Machine, v heap.Value) []heap.Value {
	switch v.Kind {
	case api.Undefined, api.Null:
		return nil
	case api.Object:
		return listOf(m, v).all()
	}
	panic(m.TypeError())
}

func call(m *machine.Machine, this heap.Value, args []heap.Value) heap.Value {
	f := needFunction(m, this)
	return m.Call(f, machine.Arg(args, 0), behind(args, 1)...)
}

func bind(m *machine.Machine, this heap.Value, args []heap.Value) heap.Value {
	f := needFunction(m, this)
	others := behind(args, 1)
	length := within(integer(m, get(m, f, "length")))
	return heap.Of(m.Bind(f, max(length-len(others), 0), machine.Arg(args, 0), others))
}

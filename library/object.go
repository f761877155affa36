package library

import (
	"ecmacore/api"
	"ecmacore/heap"
	"ecmacore/machine"
)

func fillObject(m *machine.Machine) {
	p := m.Prototypes.Object
	setFunction(m, p, "toString", 0, objectText)
	setFunction(m, p, "valueOf", 0, objectValue)
}

func objectText(m *machine.Machine, this heap.Value, _ []heap.Value) heap.Value {
	switch this.Kind {
	case api.Undefined:
		return classText("Undefined")
	case api.Null:
		return classText("Null")
	}
	return classText(m.Object(this).Class)
}

func objectValue(m *machine.Machine, this heap.Value, _ []heap.Value) heap.Value {
	return heap.Of(m.Object(this))
}

func classText(class string) heap.Value { return heap.String("[object " + class + "]") }

func fillFunction(m *machine.Machine) {
	setFunction(m, m.Prototypes.Function, "toString", 0, functionText)
}

func functionText(m *machine.Machine, this heap.Value, _ []heap.Value) heap.Value {
	if !machine.IsFunction(this) {
		panic(m.TypeError())
	}
	return heap.String("function () { [code] }")
}

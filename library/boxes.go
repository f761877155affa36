package library

import (
	"ecmacore/api"
	"ecmacore/heap"
	"ecmacore/machine"
	"ecmacore/num"
)

// fillBoxes: the prototypes of String, Number and Boolean.
func fillBoxes(m *machine.Machine) {
	p := m.Prototypes
	setFunction(m, p.String, "toString", 0, stringValue)
	setFunction(m, p.String, "valueOf", 0, stringValue)
	setFunction(m, p.Number, "toString", 1, numberText)
	setFunction(m, p.Number, "valueOf", 0, numberValue)
	setFunction(m, p.Boolean, "toString", 0, booleanText)
	setFunction(m, p.Boolean, "valueOf", 0, booleanValue)
}

// unboxed: a value of that kind, or the one that an object has in it; else TypeError.
func unboxed(m *machine.Machine, v heap.Value, kind int) heap.Value {
	if v.Kind == api.Object {
		if b, ok := v.Ref.Inner.(*heap.Boxed); ok {
			v = b.Value
		}
	}
	if v.Kind != kind {
		panic(m.TypeError())
	}
	return v
}

func stringValue(m *machine.Machine, this heap.Value, _ []heap.Value) heap.Value {
	return unboxed(m, this, api.String)
}

func numberValue(m *machine.Machine, this heap.Value, _ []heap.Value) heap.Value {
	return unboxed(m, this, api.Number)
}

func booleanValue(m *machine.Machine, this heap.Value, _ []heap.Value) heap.Value {
	return unboxed(m, this, api.Boolean)
}

func booleanText(m *machine.Machine, this heap.Value, _ []heap.Value) heap.Value {
	return m.String(unboxed(m, this, api.Boolean))
}

func numberText(m *machine.Machine, this heap.Value, args []heap.Value) heap.Value {
	x := unboxed(m, this, api.Number)
	base := 10.0
	if v := machine.Arg(args, 0); v.Kind != api.Undefined {
		base = integer(m, v)
	}
	text, err := num.Radix(x.Num, within(base))
	if err != nil {
		panic(m.RangeError())
	}
	return heap.String(text)
}

// within: a whole number as an int, as far as that can tell it.
func within(x float64) int {
	const far = 1 << 30
	return int(max(-far, min(x, far)))
}

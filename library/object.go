package library

import (
	"ecmacore/api"
	"ecmacore/heap"
	"ecmacore/machine"
)

func fillObject(m *machine.Machine) {
	p := m.Prototypes.Object
	setFunction(m, p, "toString", 0, objectText)
	setFunction(m, p, "valueOf", 0, objectValue)
}

func objectText(m *machine.Machine, this heap.Value, _ []heap.Value) heap.Value {
	switch this.Kind {
	case api.Undefined:
		return classText("Undefined")
	case api.Null:
		return classText("Null")
	}
	return classText(m.Object(this).Class)
}

func objectValue(m *machine.Machine, this heap.Value, _ []heap.Value) heap.Value {
	return heap.Of(m.Object(this))
}

func classText(class string) heap.Value { return heap.String("[object " + class + "]") }

// completeObject: what there is from level 1 on.
func completeObject(m *machine.Machine) {
	p := m.Prototypes.Object
	fillConstructor(m, setConstructor(m, "Object", p, makeObject))
	setFunction(m, p, "toLocaleString", 0, objectLocaleText)
	setFunction(m, p, "hasOwnProperty", 1, hasOwn)
	setFunction(m, p, "isPrototypeOf", 1, isPrototype)
	setFunction(m, p, "propertyIsEnumerable", 1, isEnumerable)
}

func makeObject(m *machine.Machine, args []heap.Value) heap.Value {
	v := machine.Arg(args, 0)
	if machine.IsNothing(v) {
		return heap.Of(newObject(m))
	}
	return heap.Of(m.Object(v))
}

func newObject(m *machine.Machine) *heap.Object {
	return m.Make(machine.ObjectClass, m.Prototypes.Object)
}

func objectLocaleText(m *machine.Machine, this heap.Value, _ []heap.Value) heap.Value {
	o := m.Object(this)
	f := needFunction(m, get(m, o, "toString"))
	return m.Call(f, heap.Of(o))
}

// ownOf: the own property of this that the first argument names.
func ownOf(m *machine.Machine, this heap.Value, args []heap.Value) (heap.Property, bool) {
	k := m.Key(machine.Arg(args, 0))
	return m.Object(this).Own(k)
}

func hasOwn(m *machine.Machine, this heap.Value, args []heap.Value) heap.Value {
	_, has := ownOf(m, this, args)
	return heap.Boolean(has)
}

func isEnumerable(m *machine.Machine, this heap.Value, args []heap.Value) heap.Value {
	p, _ := ownOf(m, this, args)
	return heap.Boolean(p.Enumerable)
}

func isPrototype(m *machine.Machine, this heap.Value, args []heap.Value) heap.Value {
	v := machine.Arg(args, 0)
	if v.Kind != api.Object {
		return heap.Boolean(false)
	}
	wanted := m.Object(this)
	for o := v.Ref.Proto; o != nil; o = o.Proto {
		if o == wanted {
			return heap.Boolean(true)
		}
	}
	return heap.Boolean(false)
}

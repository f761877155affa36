package library

import (
	"ecmacore/api"
	"ecmacore/heap"
	"ecmacore/machine"
)

func fillErrors(m *machine.Machine) {
	p := m.Prototypes
	fillError(m, "Error", p.Error)
	fillError(m, "RangeError", p.RangeError)
	fillError(m, "ReferenceError", p.ReferenceError)
	fillError(m, "SyntaxError", p.SyntaxError)
	fillError(m, "TypeError", p.TypeError)
	setFunction(m, p.Error, "toString", 0, errorText)
}

// errorKind makes errors behind which its prototype stands.
type errorKind struct {
	prototype *heap.Object
}

func fillError(m *machine.Machine, name string, prototype *heap.Object) {
	kind := errorKind{prototype: prototype}
	setConstructor(m, name, prototype, kind.made)
	set(m, prototype, "name", heap.String(name), usual())
	set(m, prototype, "message", heap.String(""), usual())
}

func (k errorKind) made(m *machine.Machine, args []heap.Value) heap.Value {
	o := m.Make(machine.ErrorClass, k.prototype)
	if message := machine.Arg(args, 0); message.Kind != api.Undefined {
		set(m, o, "message", m.String(message), usual())
	}
	return heap.Of(o)
}

func errorText(m *machine.Machine, this heap.Value, _ []heap.Value) heap.Value {
	if this.Kind != api.Object {
		panic(m.TypeError())
	}
	name := textOr(m, get(m, this.Ref, "name"), "Error")
	message := textOr(m, get(m, this.Ref, "message"), "")
	switch {
	case name.Text == "":
		return message
	case message.Text == "":
		return name
	}
	return m.Join(m.Join(name, heap.String(": ")), message)
}

// textOr: a value as a string; undefined counts as that text.
func textOr(m *machine.Machine, v heap.Value, text string) heap.Value {
	if v.Kind == api.Undefined {
		return heap.String(text)
	}
	return m.String(v)
}

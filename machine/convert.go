package machine

import (
	"math"

	"ecmacore/api"
	"ecmacore/heap"
	"ecmacore/num"
)

// Hint: which primitive of an object is asked for first.
type Hint int

// The hints. None counts as HintNumber.
const (
	HintNumber Hint = iota
	HintString
)

// Primitive: what an object is taken for; all else is itself.
func (m *Machine) Primitive(v heap.Value, hint Hint) heap.Value {
	if v.Kind != api.Object {
		return v
	}
	names := [2]string{"valueOf", "toString"}
	if hint == HintString {
		names[0], names[1] = names[1], names[0]
	}
	for _, name := range names {
		if p := m.ask(v, name); p.Kind != api.Object {
			return p
		}
	}
	panic(m.TypeError())
}

// ask: what a function of an object gives, called on it; the object, if it is none.
func (m *Machine) ask(v heap.Value, name string) heap.Value {
	m.shut++
	given := v
	if f := m.Get(v, heap.Key{Name: name}); IsFunction(f) {
		given = m.Call(f.Ref, v)
	}
	m.shut--
	return given
}

// Truth: whether it is taken for true.
func Truth(v heap.Value) bool {
	switch v.Kind {
	case api.Boolean, api.Number:
		return v.Num != 0 && v.Num == v.Num
	case api.String:
		return v.Text != ""
	}
	return v.Kind == api.Object
}

// Number that a value is taken for.
func (m *Machine) Number(v heap.Value) float64 {
	switch v.Kind {
	case api.Undefined:
		return math.NaN()
	case api.String:
		return num.Read(v.Text)
	case api.Object:
		return m.Number(m.Primitive(v, HintNumber))
	}
	return v.Num // of null it is 0
}

// String that a value is taken for.
func (m *Machine) String(v heap.Value) heap.Value {
	v = m.Primitive(v, HintString)
	switch v.Kind {
	case api.String:
		return v
	case api.Undefined:
		return heap.String("undefined")
	case api.Null:
		return heap.String("null")
	case api.Number:
		return heap.String(num.Text(v.Num))
	}
	if Truth(v) {
		return heap.String("true")
	}
	return heap.String("false")
}

// Object that a value is taken for.
func (m *Machine) Object(v heap.Value) *heap.Object {
	switch v.Kind {
	case api.Object:
		return v.Ref
	case api.Boolean:
		return m.box(BooleanClass, m.Prototypes.Boolean, v)
	case api.Number:
		return m.box(NumberClass, m.Prototypes.Number, v)
	case api.String:
		return m.box(StringClass, m.Prototypes.String, v)
	}
	panic(m.TypeError())
}

func (m *Machine) box(class string, behind *heap.Object, v heap.Value) *heap.Object {
	o := m.Make(class, behind)
	o.Inner = &heap.Boxed{Value: v}
	if v.Kind == api.String {
		m.Define(o, lengthKey(), heap.Whole(heap.Number(v.Num), heap.Traits{}))
	}
	return o
}

// TypeOf: what typeof says.
func TypeOf(v heap.Value) string {
	switch v.Kind {
	case api.Undefined:
		return "undefined"
	case api.Boolean:
		return "boolean"
	case api.Number:
		return "number"
	case api.String:
		return "string"
	}
	if IsFunction(v) {
		return "function"
	}
	return "object"
}

// Key that a value is taken for, as a string. Numbers that are places take no way through their text.
func (m *Machine) Key(v heap.Value) heap.Key {
	if v.Kind == api.Number && v.Num >= 0 && v.Num <= heap.MaxPlace && v.Num == math.Floor(v.Num) {
		return heap.Key{Place: uint32(v.Num), IsPlace: true}
	}
	return heap.KeyOf(m.String(v).Text)
}

func lengthKey() heap.Key { return heap.Key{Name: "length"} }

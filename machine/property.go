package machine

import (
	"ecmacore/api"
	"ecmacore/heap"
	"ecmacore/num"
)

// solid: TypeError, if a value can have no properties.
func (m *Machine) solid(v heap.Value) {
	if IsNothing(v) {
		panic(m.TypeError())
	}
}

// IsNothing: undefined or null.
func IsNothing(v heap.Value) bool { return v.Kind == api.Undefined || v.Kind == api.Null }

// first: the object in which a value's properties are looked for.
func (m *Machine) first(v heap.Value) *heap.Object {
	switch v.Kind {
	case api.Object:
		return v.Ref
	case api.Boolean:
		return m.Prototypes.Boolean
	case api.Number:
		return m.Prototypes.Number
	case api.String:
		return m.Prototypes.String
	}
	panic(m.TypeError())
}

// ofString: what a string, which is no object, has itself.
func ofString(v heap.Value, k heap.Key) (heap.Value, bool) {
	switch {
	case v.Kind != api.String:
		return heap.Value{}, false
	case k.IsPlace && int(k.Place) < v.Count():
		return v.Unit(int(k.Place)), true
	}
	return heap.Number(v.Num), k == lengthKey()
}

// Get of a property of a value.
func (m *Machine) Get(v heap.Value, k heap.Key) heap.Value {
	if own, has := ofString(v, k); has {
		return own
	}
	p, _, _ := m.first(v).Find(k)
	return m.given(p, v)
}

// given: what a property of a value gives; undefined, if it is none.
func (m *Machine) given(p heap.Property, v heap.Value) heap.Value {
	if p.Get != nil {
		return m.Call(p.Get, v)
	}
	return p.Value
}

// Has: whether an object, or what stands behind it, has a property.
func Has(o *heap.Object, k heap.Key) bool {
	_, _, has := o.Find(k)
	return has
}

// Put: a value to a property of a value.
func (m *Machine) Put(v heap.Value, k heap.Key, x heap.Value) {
	p, who, _ := m.first(v).Find(k)
	m.putFound(v, k, x, p, who)
}

// putFound: likewise; the property was looked for, and found with who, or with nobody.
func (m *Machine) putFound(v heap.Value, k heap.Key, x heap.Value, p heap.Property, who *heap.Object) {
	_, own := ofString(v, k)
	switch {
	case p.Set != nil && !own:
		m.Call(p.Set, v, x)
	case v.Kind != api.Object, who != nil && !p.Writable:
		panic(m.TypeError())
	case who == v.Ref:
		m.Define(v.Ref, k, heap.ValueAlone(x))
	default:
		m.Define(v.Ref, k, heap.Whole(x, heap.AllFlags()))
	}
}

// Define: the property becomes as is told, or TypeError.
func (m *Machine) Define(o *heap.Object, k heap.Key, t heap.Told) {
	if t.HasValue && o.Class == heap.Array && k == lengthKey() {
		t.Value = m.arrayLength(t.Value)
	}
	if o.Define(k, t) != nil {
		panic(m.TypeError())
	}
}

// arrayLength: the value is taken for a number twice, which a program can tell.
func (m *Machine) arrayLength(v heap.Value) heap.Value {
	n := float64(num.Uint32(m.Number(v)))
	if m.Number(v) != n {
		panic(m.RangeError())
	}
	return heap.Number(n)
}

// Delete: TypeError, if the property may not go.
func (m *Machine) Delete(o *heap.Object, k heap.Key) {
	if o.Delete(k) != nil {
		panic(m.TypeError())
	}
}

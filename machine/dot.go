package machine

import (
	"ecmacore/api"
	"ecmacore/heap"
)

// readDot: Get, where the program reads a property by its name.
func (m *Machine) readDot(d *heap.Dot, v heap.Value) heap.Value {
	if own, has := ofString(v, heap.Key{Name: d.Name}); has {
		return own
	}
	p, _ := m.findAt(d, v)
	return m.given(p, v)
}

// writeDot: Put, where the program writes one.
func (m *Machine) writeDot(d *heap.Dot, v, x heap.Value) {
	p, who := m.findAt(d, v)
	m.putFound(v, heap.Key{Name: d.Name}, x, p, who)
}

// findAt: the property that a dot means of a value, and who has it. What is no object has no shape: of that nothing is remembered or counted.
func (m *Machine) findAt(d *heap.Dot, v heap.Value) (heap.Property, *heap.Object) {
	if v.Kind != api.Object {
		p, who, _ := m.first(v).Find(heap.Key{Name: d.Name})
		return p, who
	}
	p, who, known := d.Find(v.Ref)
	if known {
		m.hits++
	} else {
		m.misses++
	}
	return p, who
}

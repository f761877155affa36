package machine

import (
	"ecmacore/api"
	"ecmacore/heap"
	"ecmacore/units"
)

// Text is a string that is put together, one piece behind the other.
type Text struct {
	bytes []byte
	count int
}

// Add: a string behind what there is.
func (t *Text) Add(m *Machine, v heap.Value) {
	m.Fits(t.count + v.Count())
	t.bytes = units.Append(t.bytes, v.Text)
	t.count += v.Count()
}

// Value: what there is.
func (t *Text) Value() heap.Value { return heap.Counted(string(t.bytes), t.count) }

// Gather: strings behind what there is, of which Whole asks whether it is too much: what cannot be in a string is counted, but not kept.
func (t *Text) Gather(pieces ...heap.Value) {
	for _, v := range pieces {
		t.count += v.Count()
		if t.count <= api.MaxString {
			t.bytes = units.Append(t.bytes, v.Text)
		}
	}
}

// Whole: all that was gathered.
func (t *Text) Whole(m *Machine) heap.Value {
	m.Fits(t.count)
	return t.Value()
}

// Join: two strings, one behind the other.
func (m *Machine) Join(v, w heap.Value) heap.Value {
	count := v.Count() + w.Count()
	m.Fits(count)
	return heap.Counted(units.Join(v.Text, w.Text), count)
}

// Fits: RangeError, if a string would have too many units.
func (m *Machine) Fits(count int) {
	if count > api.MaxString {
		panic(m.RangeError())
	}
}

package objects

import (
	"ecmacore/api"
	"ecmacore/heap"
	"ecmacore/units"
)

// textOf: one text of the many that have the same units: package heap holds texts against each other.
func textOf(s string) string { return units.Text(units.Units(s)) }

func keyOf(s string) heap.Key { return heap.KeyOf(textOf(s)) }

// told: what is told by numbers; false, if an object is told that there is not, or a value of no kind.
func (h *Heap) told(d api.Desc) (heap.Told, bool) {
	t := heap.Told{
		HasValue: d.HasValue, HasGet: d.HasGet, HasSet: d.HasSet,
		HasWritable: d.HasWritable, HasEnumerable: d.HasEnumerable, HasConfigurable: d.HasConfigurable,
	}
	t.Writable, t.Enumerable, t.Configurable = d.Writable, d.Enumerable, d.Configurable
	value, get, set := true, true, true
	if d.HasValue {
		t.Value, value = h.value(d.Value)
	}
	if d.HasGet {
		t.Get, get = h.orNone(d.Get)
	}
	if d.HasSet {
		t.Set, set = h.orNone(d.Set)
	}
	return t, value && get && set
}

// value: false, if it is an object that there is not, or of no kind. What its kind has not is left out.
func (h *Heap) value(v api.Value) (heap.Value, bool) {
	w := heap.Value{Kind: v.Kind}
	switch v.Kind {
	case api.Undefined, api.Null:
	case api.Boolean:
		if v.Num != 0 {
			w.Num = 1
		}
	case api.Number:
		w.Num = v.Num
	case api.String:
		w.Text = textOf(v.Text)
	case api.Object:
		w.Ref = h.heap.Numbered(v.Ref)
		return w, w.Ref != nil
	default:
		return heap.Value{}, false
	}
	return w, true
}

// orNone: an object, or nil for 0; false, if there is no such object.
func (h *Heap) orNone(r int) (*heap.Object, bool) {
	o := h.heap.Numbered(r)
	return o, o != nil || r == 0
}

// descOf tells all that the property's sort has.
func descOf(p heap.Property) api.Desc {
	d := api.Desc{
		HasEnumerable: true, Enumerable: p.Enumerable,
		HasConfigurable: true, Configurable: p.Configurable,
	}
	if p.Functions {
		d.HasGet, d.HasSet = true, true
		d.Get, d.Set = numberOf(p.Get), numberOf(p.Set)
		return d
	}
	d.HasValue, d.HasWritable = true, true
	d.Value, d.Writable = plainValue(p.Value), p.Writable
	return d
}

func plainValue(v heap.Value) api.Value {
	return api.Value{Kind: v.Kind, Num: v.Num, Text: v.Text, Ref: numberOf(v.Ref)}
}

func numberOf(o *heap.Object) int {
	if o == nil {
		return 0
	}
	return o.Number()
}

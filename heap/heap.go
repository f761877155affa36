package heap

import (
	"cmp"
	"math"
	"slices"

	"ecmacore/api"
)

// Heap is objects.
type Heap struct {
	objects []*Object // by their numbers, rising
	made    int       // how many were ever made: none gets a number that another had
	rounds  int       // how often was collected
	effort  int       // of the last time
	first   *Shape    // of objects to which no name came
	shapes  int       // how many were left when shapes were collected last
	lost    int       // how many may have become free since then: shapes are gone through when it pays
}

// New: without objects.
func New() *Heap { return &Heap{first: newShape()} }

// Array is the class, and length the name, of which this package knows more than that they are.
const (
	Array  = "Array"
	length = "length"
)

// Make: a new object.
func (h *Heap) Make(class string, proto *Object) *Object {
	h.made++
	o := &Object{Class: class, Proto: proto, number: h.made, shape: h.first}
	if class == Array {
		o.set(Key{Name: length}, Property{Traits: Traits{Writable: true}, Value: Value{Kind: api.Number}})
	}
	h.objects = append(h.objects, o)
	return o
}

// Numbered: the object with a number, or nil.
func (h *Heap) Numbered(n int) *Object {
	i, has := slices.BinarySearchFunc(h.objects, n, func(o *Object, n int) int { return cmp.Compare(o.number, n) })
	if !has {
		return nil
	}
	return h.objects[i]
}

// Live: how many objects there are.
func (h *Heap) Live() int { return len(h.objects) }

// Define: the property becomes as is told, or the error tells that it may not.
func (o *Object) Define(k Key, t Told) error {
	if t.tellsFunctions() && t.tellsValue() {
		return api.ErrType
	}
	if o.Class == Array && k.Name == length {
		return o.defineLength(t)
	}
	p, has := o.Own(k)
	if has && p.refuses(t) || !has && !o.takes(k) {
		return api.ErrType
	}
	if k.IsPlace && int(k.Place) < o.units() { // it is what is told already
		return nil
	}
	o.set(k, p.with(t))
	if n := o.length(); n != nil && k.IsPlace {
		n.Num = max(n.Num, float64(k.Place)+1)
	}
	return nil
}

// takes: whether the object may get a property that it has not.
func (o *Object) takes(k Key) bool {
	if o.Fixed {
		return false
	}
	n := o.length()
	return n == nil || !k.IsPlace || float64(k.Place) < n.Num || o.named[0].Writable
}

// length of an Array, else nil. (It is the first name of every Array, and never goes.)
func (o *Object) length() *Value {
	if o.Class != Array {
		return nil
	}
	return &o.named[0].Value
}

// Delete: the property goes, if the object has it.
func (o *Object) Delete(k Key) error {
	p, has := o.Own(k)
	if !has {
		return nil
	}
	if !p.Configurable {
		return api.ErrType
	}
	o.remove(k)
	return nil
}

func (o *Object) defineLength(t Told) error {
	if t.HasValue && !isLength(t.Value) {
		return api.ErrRange
	}
	t.Value.Num += 0 // -0 becomes 0
	p := o.named[0]
	if p.refuses(t) {
		return api.ErrType
	}
	told := p.with(t)
	if told.Value.Num < p.Value.Num {
		told.Value.Num = float64(o.cut(uint32(p.Value.Num), uint32(told.Value.Num)))
	}
	o.set(Key{Name: length}, told)
	if t.HasValue && told.Value.Num != t.Value.Num {
		return api.ErrType
	}
	return nil
}

func isLength(v Value) bool {
	return v.Kind == api.Number && v.Num == math.Floor(v.Num) && v.Num >= 0 && v.Num <= MaxLength
}

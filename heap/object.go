package heap

import "slices"

// Object has properties: names, of which its shape knows where they stand, and places.
type Object struct {
	Class string
	Proto *Object // what stands behind it, or nil
	Fixed bool    // it gets no further properties
	Inner Holder  // what it holds beside its properties, or nil

	number int
	shape  *Shape
	named  []Property          // as the names of its shape stand
	row    []Value             // the places from 0 on that have all flags, or noValue
	strewn map[uint32]Property // all other places
	kept   bool                // the collector met it
}

// Number tells the object apart from others of its heap: it is above 0.
func (o *Object) Number() int { return o.number }

// Own: the object's own property.
func (o *Object) Own(k Key) (Property, bool) {
	if k.IsPlace {
		if p, has := o.unit(k.Place); has {
			return p, true
		}
		return o.place(k.Place)
	}
	if i, has := o.shape.find(k.Name); has {
		return o.named[i], true
	}
	return Property{}, false
}

// Find: the property of the object, or of what stands behind it; who has it.
func (o *Object) Find(k Key) (Property, *Object, bool) {
	for ; o != nil; o = o.Proto {
		if p, has := o.Own(k); has {
			return p, o, true
		}
	}
	return Property{}, nil, false
}

// Keys: places, rising; then names as they came.
func (o *Object) Keys() []Key {
	var keys []Key
	for n := range o.units() {
		keys = append(keys, Key{Place: uint32(n), IsPlace: true})
	}
	for _, n := range o.places() {
		keys = append(keys, Key{Place: n, IsPlace: true})
	}
	n := o.shape.names
	for i, name := range n.list[:o.shape.count] {
		if n.has(i) {
			keys = append(keys, Key{Name: name})
		}
	}
	return keys
}

// Alike: whether both have one shape. One whose shape is its own is not even like itself.
func (o *Object) Alike(q *Object) bool { return o.shape == q.shape && !o.shape.alone }

func (o *Object) set(k Key, p Property) {
	if k.IsPlace {
		o.setPlace(k.Place, p)
		return
	}
	i, has := o.shape.find(k.Name)
	if !has {
		o.shape = o.shape.after(Step{Name: k.Name, Traits: p.Traits})
		o.named = append(o.named, p)
		return
	}
	if o.named[i].Traits != p.Traits {
		o.shape = o.shape.apart()
	}
	o.named[i] = p
}

// remove: a property that the object has.
func (o *Object) remove(k Key) {
	if k.IsPlace {
		o.removePlace(k.Place)
		return
	}
	i, _ := o.shape.find(k.Name)
	o.shape = o.shape.apart()
	delete(o.shape.names.at, k.Name)
	o.named[i] = Property{}
	o.closeGaps()
}

// closeGaps waits until most are gaps, so that many names can go one by one.
func (o *Object) closeGaps() {
	n := o.shape.names
	if len(n.list) <= 2*len(n.at)+8 {
		return
	}
	closed := &names{at: make(map[string]int, len(n.at))}
	var named []Property
	for i, name := range n.list {
		if n.has(i) {
			closed.add(name)
			named = append(named, o.named[i])
		}
	}
	o.shape, o.named = closed.alone(), slices.Clip(named)
}

package heap

// Dot is a place in a program that reads or writes a property by its name. It remembers the shape of the object that it met last, and where the property stood in it, or (of one that reads) in what stood right behind it.
type Dot struct {
	Name   string
	Writes bool

	shape  *Shape // nil: nothing is remembered
	at     int    // where the property stood
	behind int    // the number of the object behind, if it stood there, else 0: an object that is remembered by its number can go
}

// Hold: when all objects that had the shape are gone, others can still come to it, and must be known.
func (d *Dot) Hold(m *Marker) { m.Shape(d.shape) }

// Find: as the object's Find has it; known: the property stood where the dot remembered.
func (d *Dot) Find(o *Object) (p Property, who *Object, known bool) {
	if who = d.holder(o); who != nil {
		return who.named[d.at], who, true
	}
	p, who, _ = o.Find(Key{Name: d.Name})
	d.remember(o, who)
	return p, who, false
}

// holder: who has the property, if what the dot remembers is right of the object; else nil.
func (d *Dot) holder(o *Object) *Object {
	switch {
	case o.shape != d.shape:
		return nil
	case d.behind == 0:
		return o
	case o.Proto != nil && o.Proto.number == d.behind && o.Proto.shape.stands(d.Name, d.at):
		return o.Proto
	}
	return nil
}

// remember who has the property of the object: nothing, if no other object can be known by that.
func (d *Dot) remember(o, who *Object) {
	d.shape, d.behind = nil, 0
	if who == nil || o.shape.alone {
		return
	}
	switch {
	case who == o:
	case who == o.Proto && !d.Writes:
		d.behind = who.number
	default:
		return
	}
	d.shape = o.shape
	d.at, _ = who.shape.find(d.Name)
}

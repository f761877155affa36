package heap

import "ecmacore/api"

// Boxed is what an object of class Boolean, Number or String holds: its value. The units of a String are places of the object, beside its own.
type Boxed struct {
	Value Value
}

// Hold: such a value is no object.
func (b *Boxed) Hold(*Marker) {}

// units: how many the object's string has; 0, if it has none.
func (o *Object) units() int {
	if b, ok := o.Inner.(*Boxed); ok && b.Value.Kind == api.String {
		return b.Value.Count()
	}
	return 0
}

// unit: the place that the object's string is there.
func (o *Object) unit(n uint32) (Property, bool) {
	b, ok := o.Inner.(*Boxed)
	if !ok || int(n) >= o.units() {
		return Property{}, false
	}
	return Property{Traits: Traits{Enumerable: true}, Value: b.Value.Unit(int(n))}, true
}

package heap

// Traits: what a shape knows of a property: its flags, and whether it is functions or a value.
type Traits struct {
	Writable, Enumerable, Configurable bool
	Functions                          bool
}

// AllFlags: of a property that a program made by an assignment.
func AllFlags() Traits { return Traits{Writable: true, Enumerable: true, Configurable: true} }

// Property: a value, or two functions (nil: none).
type Property struct {
	Traits
	Value    Value
	Get, Set *Object
}

// Told is what is told of a property: of what is embedded that alone counts of which Has.. is true.
type Told struct {
	Property
	HasValue, HasGet, HasSet, HasWritable, HasEnumerable, HasConfigurable bool
}

// Whole: all is told of a property with a value.
func Whole(v Value, flags Traits) Told {
	return Told{Property: Property{Traits: flags, Value: v}, HasValue: true, HasWritable: true, HasEnumerable: true, HasConfigurable: true}
}

// ValueAlone is told: flags stay.
func ValueAlone(v Value) Told { return Told{Property: Property{Value: v}, HasValue: true} }

func (t Told) tellsFunctions() bool { return t.HasGet || t.HasSet }

func (t Told) tellsValue() bool { return t.HasValue || t.HasWritable }

// refuses: whether the property may not become as is told.
func (p Property) refuses(t Told) bool {
	switch {
	case p.Configurable:
		return false
	case t.HasConfigurable && t.Configurable, t.HasEnumerable && t.Enumerable != p.Enumerable:
		return true
	case p.Functions:
		return t.tellsValue() || t.HasGet && t.Get != p.Get || t.HasSet && t.Set != p.Set
	case t.tellsFunctions():
		return true
	case p.Writable:
		return false
	}
	return t.HasWritable && t.Writable || t.HasValue && !Same(t.Value, p.Value)
}

// with: the property as it is when what is told of it is so.
func (p Property) with(t Told) Property {
	if p.Functions && t.tellsValue() || !p.Functions && t.tellsFunctions() {
		p = Property{Traits: Traits{Enumerable: p.Enumerable, Configurable: p.Configurable, Functions: !p.Functions}}
	}
	if t.HasValue {
		p.Value = t.Value
	}
	if t.HasGet {
		p.Get = t.Get
	}
	if t.HasSet {
		p.Set = t.Set
	}
	if t.HasWritable {
		p.Writable = t.Writable
	}
	if t.HasEnumerable {
		p.Enumerable = t.Enumerable
	}
	if t.HasConfigurable {
		p.Configurable = t.Configurable
	}
	return p
}

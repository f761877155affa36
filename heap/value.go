// Package heap: the objects that the machine works on, with their properties and shapes, and the collector: see chapter 6.
package heap

import (
	"math"

	"ecmacore/api"
	"ecmacore/units"
)

// Value of the language; its kind is one of api's. What its kind has not is zero in it, so that two are ===, if they are equal structs.
type Value struct {
	Kind int
	Num  float64 // of a Boolean (0 or 1), a Number; of a String of the machine's: how many units it has
	Text string  // of a String
	Ref  *Object // of an Object
}

// Null is the value.
func Null() Value { return Value{Kind: api.Null} }

// Boolean is a value.
func Boolean(b bool) Value {
	if b {
		return Value{Kind: api.Boolean, Num: 1}
	}
	return Value{Kind: api.Boolean}
}

// Number is a value.
func Number(x float64) Value { return Value{Kind: api.Number, Num: x} }

// String is a value, of a text as package units gives it.
func String(text string) Value { return Counted(text, units.Count(text)) }

// Counted: likewise, of which it is known how many units it has.
func Counted(text string, count int) Value {
	return Value{Kind: api.String, Text: text, Num: float64(count)}
}

// Of an object: the value.
func Of(o *Object) Value { return Value{Kind: api.Object, Ref: o} }

// Count: of a String: how many units it has.
func (v Value) Count() int { return int(v.Num) }

// Same: as ===, but NaN is the same as NaN, and 0 not as -0.
func Same(v, w Value) bool {
	if v.Kind != api.Number || w.Kind != api.Number {
		return v == w
	}
	if math.IsNaN(v.Num) {
		return math.IsNaN(w.Num)
	}
	return math.Float64bits(v.Num) == math.Float64bits(w.Num)
}

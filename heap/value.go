// Package heap: the objects that the machine works on, with their properties and shapes, and the collector: see chapter 6.
package heap

import (
	"math"

	"ecmacore/api"
)

// Value of the language; its kind is one of api's. What its kind has not is zero in it, so that two are ===, if they are equal structs.
type Value struct {
	Kind int
	Num  float64 // of a Boolean (0 or 1), a Number
	Text string  // of a String
	Ref  *Object // of an Object
}

// Same: as ===, but NaN is the same as NaN, and 0 not as -0.
func Same(v, w Value) bool {
	if v.Kind != api.Number || w.Kind != api.Number {
		return v == w
	}
	if math.IsNaN(v.Num) {
		return math.IsNaN(w.Num)
	}
	return math.Float64bits(v.Num) == math.Float64bits(w.Num)
}

package heap

import (
	"iter"
	"strings"

	"ecmacore/units"
)

// What stands here is asked of values that are strings.

// Unit: the one at a place that it has, as a string.
func (v Value) Unit(i int) Value {
	if v.inBytes() {
		return Counted(v.Text[i:i+1], 1)
	}
	return Counted(units.Text([]uint16{v.Code(i)}), 1)
}

// Code: likewise, as a number.
func (v Value) Code(i int) uint16 {
	if v.inBytes() {
		return uint16(v.Text[i])
	}
	return units.At(v.Text, i)
}

// Cut: its units from one place to another; none, if that is not behind the first.
func (v Value) Cut(from, to int) Value {
	switch {
	case from >= to:
		return Counted("", 0)
	case v.inBytes():
		return Counted(v.Text[from:to], to-from)
	}
	return Counted(units.Text(units.Units(v.Text)[from:to]), to-from)
}

// Index: where another stands in it first, from a place on; -1: nowhere.
func (v Value) Index(part Value, from int) int {
	if v.inBytes() {
		if at := strings.Index(v.Text[from:], part.Text); at >= 0 {
			return from + at
		}
		return -1
	}
	for at := range v.places(part) {
		if at >= from {
			return at
		}
	}
	return -1
}

// LastIndex: where another stands in it last, at a place or ahead of that; -1: nowhere.
func (v Value) LastIndex(part Value, from int) int {
	if v.inBytes() {
		return strings.LastIndex(v.Text[:min(from+len(part.Text), len(v.Text))], part.Text)
	}
	last := -1
	for at := range v.places(part) {
		if at > from {
			break
		}
		last = at
	}
	return last
}

func (v Value) places(part Value) iter.Seq[int] {
	return units.Places(units.Units(v.Text), units.Units(part.Text))
}

// inBytes: whether each byte is a unit, so that no others are asked to find one.
func (v Value) inBytes() bool { return v.Count() == len(v.Text) }

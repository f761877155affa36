package heap

import (
	"maps"
	"slices"
)

// noValue is the kind of what stands in a row for a place that the object has not, or that is strewn.
const noValue = -1

func (o *Object) place(n uint32) (Property, bool) {
	if int(n) < len(o.row) && o.row[n].Kind != noValue {
		return Property{Traits: AllFlags(), Value: o.row[n]}, true
	}
	p, has := o.strewn[n]
	return p, has
}

func (o *Object) setPlace(n uint32, p Property) {
	switch {
	case p.Traits != AllFlags():
		o.leaveRow(n)
		o.strew(n, p)
	case int(n) < len(o.row):
		o.row[n] = p.Value
		delete(o.strewn, n)
	case int(n) == len(o.row):
		o.row = append(o.row, p.Value)
		delete(o.strewn, n)
		o.extendRow()
	default:
		o.strew(n, p)
	}
}

func (o *Object) removePlace(n uint32) {
	o.leaveRow(n)
	delete(o.strewn, n)
}

func (o *Object) strew(n uint32, p Property) {
	if o.strewn == nil {
		o.strewn = map[uint32]Property{}
	}
	o.strewn[n] = p
}

// extendRow takes places into the row that were strewn behind its end, or all that follow would be strewn, too.
func (o *Object) extendRow() {
	for {
		n := uint32(len(o.row))
		p, has := o.strewn[n]
		if !has {
			return
		}
		if p.Traits != AllFlags() {
			o.row = append(o.row, Value{Kind: noValue})
			continue
		}
		o.row = append(o.row, p.Value)
		delete(o.strewn, n)
	}
}

func (o *Object) leaveRow(n uint32) {
	if int(n) >= len(o.row) {
		return
	}
	o.row[n] = Value{Kind: noValue}
	end := len(o.row)
	for end > 0 && o.row[end-1].Kind == noValue {
		end--
	}
	o.cutRow(end)
}

// cutRow forgets what it cuts: it would hold objects otherwise.
func (o *Object) cutRow(end int) {
	clear(o.row[end:])
	o.row = o.row[:end]
}

// places, rising.
func (o *Object) places() []uint32 {
	l := slices.Collect(maps.Keys(o.strewn))
	for n, v := range o.row {
		if v.Kind != noValue {
			l = append(l, uint32(n))
		}
	}
	slices.Sort(l)
	return l
}

// cut takes places away, from below one length on down to another; it tells the length at which it had to stop.
func (o *Object) cut(from, to uint32) uint32 {
	to = o.bound(from, to)
	if int(to) < len(o.row) {
		o.cutRow(int(to))
	}
	if o.fewPlaces(from, to) {
		for n := to; n < from; n++ {
			delete(o.strewn, n)
		}
		return to
	}
	for n := range o.strewn {
		if n >= to {
			delete(o.strewn, n)
		}
	}
	return to
}

// bound: one more than the highest place that cannot go; to, if all above it can.
func (o *Object) bound(from, to uint32) uint32 {
	if o.fewPlaces(from, to) {
		for n := from; n > to; n-- {
			if p, has := o.strewn[n-1]; has && !p.Configurable {
				return n
			}
		}
		return to
	}
	for n, p := range o.strewn {
		if !p.Configurable {
			to = max(to, n+1)
		}
	}
	return to
}

// fewPlaces: whether to ask one place after the other takes less than to go through all that are strewn.
func (o *Object) fewPlaces(from, to uint32) bool { return int(from)-int(to) < len(o.strewn) }

package library

import (
	"iter"
	"strconv"

	"ecmacore/heap"
	"ecmacore/machine"
	"ecmacore/num"
)

// list: an object, with the places below its length. They are counted by more bits than a length has: some functions write behind the last place that there can be.
type list struct {
	m      *machine.Machine
	object *heap.Object
	length uint64
}

// listOf: a value as a list.
func listOf(m *machine.Machine, v heap.Value) list {
	o := m.Object(v)
	return list{m: m, object: o, length: uint64(num.Uint32(m.Number(get(m, o, "length"))))}
}

func (l list) value() heap.Value { return heap.Of(l.object) }

// keyAt: a place as a key; above the last place it is a name.
func keyAt(n uint64) heap.Key {
	if n <= heap.MaxPlace {
		return heap.Key{Place: uint32(n), IsPlace: true}
	}
	return heap.Key{Name: strconv.FormatUint(n, 10)}
}

func counted(n uint64) heap.Value { return heap.Number(float64(n)) }

func (l list) has(n uint64) bool { return machine.Has(l.object, keyAt(n)) }

func (l list) get(n uint64) heap.Value { return l.m.Get(l.value(), keyAt(n)) }

func (l list) put(n uint64, v heap.Value) { l.m.Put(l.value(), keyAt(n), v) }

// putAll: from a place on.
func (l list) putAll(n uint64, values []heap.Value) {
	for i, v := range values {
		l.put(n+uint64(i), v)
	}
}

func (l list) remove(n uint64) { l.m.Delete(l.object, keyAt(n)) }

func (l list) define(n uint64, v heap.Value) {
	l.m.Define(l.object, keyAt(n), heap.Whole(v, heap.AllFlags()))
}

// putLength: the object's length; it is given.
func (l list) putLength(n uint64) heap.Value {
	l.m.Put(l.value(), heap.Key{Name: "length"}, counted(n))
	return counted(n)
}

// item at a place; false: there is none.
func (l list) item(n uint64) (heap.Value, bool) {
	l.m.Step()
	if !l.has(n) {
		return heap.Value{}, false
	}
	return l.get(n), true
}

// items: those that are there, with their places, from the first on.
func (l list) items() iter.Seq2[uint64, heap.Value] {
	return func(yield func(uint64, heap.Value) bool) {
		for n := range l.length {
			if v, is := l.item(n); is && !yield(n, v) {
				return
			}
		}
	}
}

// itemsBack: likewise, from the last below a place on.
func (l list) itemsBack(end uint64) iter.Seq2[uint64, heap.Value] {
	return func(yield func(uint64, heap.Value) bool) {
		for n := end; n > 0; n-- {
			if v, is := l.item(n - 1); is && !yield(n-1, v) {
				return
			}
		}
	}
}

// all: what stands at each place, there or not.
func (l list) all() []heap.Value {
	var values []heap.Value
	for n := range l.length {
		l.m.Step()
		values = append(values, l.get(n))
	}
	return values
}

// move: an item to another place, which goes, if there is none.
func (l list) move(from, to uint64) {
	if v, is := l.item(from); is {
		l.put(to, v)
	} else {
		l.remove(to)
	}
}

// moveDown: all items from a place on.
func (l list) moveDown(from, by uint64) {
	for n := from; n < l.length; n++ {
		l.move(n, n-by)
	}
}

// moveUp: likewise, from the last on, so that none is lost.
func (l list) moveUp(from, by uint64) {
	for n := l.length; n > from; n-- {
		l.move(n-1, n-1+by)
	}
}

// from: the place that an argument tells.
func (l list) from(v heap.Value) uint64 { return from(l.m, v, l.length) }

// from: likewise, of anything that is so long.
func from(m *machine.Machine, v heap.Value, long uint64) uint64 {
	x, length := integer(m, v), float64(long)
	if x < 0 {
		x = max(x+length, 0)
	}
	return uint64(min(x, length))
}

// array is a new Array, which is filled from the left.
type array struct {
	list
}

func newArray(m *machine.Machine) *array {
	return &array{list{m: m, object: m.Make(heap.Array, m.Prototypes.Array)}}
}

func (a *array) add(v heap.Value) {
	a.define(a.length, v)
	a.length++
}

// addItems of a list, from one place up to another: those that are not there leave theirs free.
func (a *array) addItems(l list, from, to uint64) {
	for n := from; n < to; n++ {
		if v, is := l.item(n); is {
			a.define(a.length, v)
		}
		a.length++
	}
}

// whole: its length counts also what is free at its end.
func (a *array) whole() heap.Value {
	a.putLength(a.length)
	return a.value()
}

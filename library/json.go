package library

import (
	"iter"
	"slices"

	"ecmacore/api"
	"ecmacore/heap"
	"ecmacore/machine"
)

// fillJSON: what there is from level 3 on.
func fillJSON(m *machine.Machine) {
	o := m.Make("JSON", m.Prototypes.Object)
	set(m, m.Global, "JSON", heap.Of(o), usual())
	setFunction(m, o, "parse", 2, parse)
	setFunction(m, o, "stringify", 3, stringify)
}

// The units that are written as a stroke and a letter, and those letters.
const (
	strokeUnits   = "\b\f\n\r\t\"\\"
	strokeLetters = `bfnrt"\`
)

func parse(m *machine.Machine, _ heap.Value, args []heap.Value) heap.Value {
	r := reader{m: m, text: m.String(machine.Arg(args, 0)).Text}
	v := r.whole()
	if f := machine.Arg(args, 1); machine.IsFunction(f) {
		return reviver{m: m, function: f.Ref}.revived(atEmptyKey(m, v), heap.Key{}, 0)
	}
	return v
}

// atEmptyKey: a new object that has a value there, so that functions can be called on what holds it.
func atEmptyKey(m *machine.Machine, v heap.Value) *heap.Object {
	o := newObject(m)
	set(m, o, "", v, heap.AllFlags())
	return o
}

// placesOf an Array: those below its length, there or not.
func placesOf(m *machine.Machine, o *heap.Object) iter.Seq[heap.Key] {
	return func(yield func(heap.Key) bool) {
		for n := range listOf(m, heap.Of(o)).length {
			if !yield(keyAt(n)) {
				return
			}
		}
	}
}

// reviver goes through a value that was read, from within outwards.
type reviver struct {
	m        *machine.Machine
	function *heap.Object
}

// revived: what the function makes of a key of an object that lies so deep.
func (r reviver) revived(o *heap.Object, k heap.Key, deep int) heap.Value {
	if deep > api.MaxDeep { // the function can have made it lie in itself
		panic(r.m.RangeError())
	}
	v := r.m.Get(heap.Of(o), k)
	if v.Kind == api.Object {
		for k := range r.keysOf(v.Ref) {
			r.m.Step()
			become(v.Ref, k, r.revived(v.Ref, k, deep+1))
		}
	}
	return r.m.Call(r.function, heap.Of(o), heap.String(k.Text()), v)
}

func (r reviver) keysOf(o *heap.Object) iter.Seq[heap.Key] {
	if o.Class == heap.Array {
		return placesOf(r.m, o)
	}
	return slices.Values(enumerableOf(o))
}

// become: the property gets a value, or goes, if it is undefined. What refuses that stays as it is.
func become(o *heap.Object, k heap.Key, v heap.Value) {
	if v.Kind == api.Undefined {
		_ = o.Delete(k)
		return
	}
	_ = o.Define(k, heap.Whole(v, heap.AllFlags()))
}

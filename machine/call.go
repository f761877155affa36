package machine

import (
	"ecmacore/api"
	"ecmacore/heap"
)

// Function is what a function of the library does. New is nil, if it makes nothing.
type Function struct {
	Call func(m *Machine, this heap.Value, args []heap.Value) heap.Value
	New  func(m *Machine, args []heap.Value) heap.Value
}

// Hold: it holds no objects.
func (f *Function) Hold(*heap.Marker) {}

// MakeFunction: a new object that is a function of the library.
func (m *Machine) MakeFunction(length int, f *Function) *heap.Object {
	o := m.Make(FunctionClass, m.Prototypes.Function)
	m.becomeFunction(o, length, f)
	return o
}

func (m *Machine) becomeFunction(o *heap.Object, length int, f heap.Holder) {
	o.Inner = f
	m.Define(o, lengthKey(), heap.Whole(heap.Number(float64(length)), heap.Traits{}))
}

// IsFunction: whether it can be called.
func IsFunction(v heap.Value) bool { return v.Kind == api.Object && v.Ref.Class == FunctionClass }

// Arg: the argument at a place, or undefined.
func Arg(args []heap.Value, i int) heap.Value {
	if i < len(args) {
		return args[i]
	}
	return heap.Value{}
}

// Call of a function, on a value. (To call a bound one is to call the other.)
func (m *Machine) Call(f *heap.Object, this heap.Value, args ...heap.Value) heap.Value {
	var v heap.Value
	f, this, args = unbound(f, this, args)
	m.enter()
	switch inner := f.Inner.(type) {
	case *closure:
		v = m.perform(f, inner, this, args)
	case *Function:
		m.shut++
		v = inner.Call(m, this, args)
		m.shut--
	}
	m.calls--
	return v
}

// enter counts a call. Whoever catches what is thrown out of it counts anew.
func (m *Machine) enter() {
	if m.calls >= api.MaxCalls {
		panic(m.RangeError())
	}
	m.calls++
}

// construct: what new makes.
func (m *Machine) construct(f heap.Value, args []heap.Value) heap.Value {
	if !IsFunction(f) {
		panic(m.TypeError())
	}
	o, _, args := unbound(f.Ref, heap.Value{}, args)
	switch inner := o.Inner.(type) {
	case *closure:
		return m.constructBy(o, args)
	case *Function:
		if inner.New != nil {
			return m.constructIn(inner, args)
		}
	}
	panic(m.TypeError())
}

// constructIn: likewise, with a function of the library.
func (m *Machine) constructIn(f *Function, args []heap.Value) heap.Value {
	m.enter()
	m.shut++
	v := f.New(m, args)
	m.shut--
	m.calls--
	return v
}

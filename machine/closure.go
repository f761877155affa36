package machine

import (
	"ecmacore/api"
	"ecmacore/code"
	"ecmacore/heap"
)

// closure is what a function of the program's does: its code, in the scope in which it was made.
type closure struct {
	code  *code.Code
	scope *scope
}

// Hold: it keeps its scope, and what its code remembers.
func (c *closure) Hold(k *heap.Marker) {
	c.code.Hold(k)
	c.scope.Hold(k)
}

// makeClosure: a new object that is a function of the program's.
func (m *Machine) makeClosure(c *code.Code, s *scope) heap.Value {
	o := m.Make(FunctionClass, m.Prototypes.Function)
	m.becomeFunction(o, c.Params, &closure{code: c, scope: s})
	p := m.Make(ObjectClass, m.Prototypes.Object)
	m.Define(p, heap.Key{Name: "constructor"}, heap.Whole(heap.Of(o), heap.Traits{Writable: true, Configurable: true}))
	m.Define(o, prototypeKey(), heap.Whole(heap.Of(p), heap.Traits{Writable: true}))
	return heap.Of(o)
}

func prototypeKey() heap.Key { return heap.Key{Name: "prototype"} }

// perform: the function o, which is that closure, is called.
func (m *Machine) perform(o *heap.Object, c *closure, this heap.Value, args []heap.Value) heap.Value {
	m.ownStep()
	s := &scope{outer: c.scope, variables: make([]heap.Value, c.code.Variables)}
	m.fill(s, heap.Of(o), c.code, args)
	return m.complete(&frame{code: c.code, this: this, scope: s})
}

// fill: the variables as they are when the function begins.
func (m *Machine) fill(s *scope, self heap.Value, c *code.Code, args []heap.Value) {
	copy(s.variables[:c.Params], args)
	for _, h := range c.Hoisted {
		s.variables[h.Variable] = m.makeClosure(c.Functions[h.Function], s)
	}
	if c.Self != code.None {
		s.variables[c.Self] = self
	}
	if c.Arguments != code.None {
		s.variables[c.Arguments] = m.arguments(args)
	}
}

func (m *Machine) arguments(args []heap.Value) heap.Value {
	o := m.Make(ArgumentsClass, m.Prototypes.Object)
	m.Define(o, lengthKey(), heap.Whole(heap.Number(float64(len(args))), heap.Traits{Writable: true, Configurable: true}))
	for i, v := range args {
		m.Define(o, heap.Key{Place: uint32(i), IsPlace: true}, heap.Whole(v, heap.AllFlags()))
	}
	return heap.Of(o)
}

// constructBy: what new makes with a function of the program's.
func (m *Machine) constructBy(f *heap.Object, args []heap.Value) heap.Value {
	behind := m.Prototypes.Object
	if p := m.Get(heap.Of(f), prototypeKey()); p.Kind == api.Object {
		behind = p.Ref
	}
	made := heap.Of(m.Make(ObjectClass, behind))
	if v := m.Call(f, made, args...); v.Kind == api.Object {
		return v
	}
	return made
}

// hoist: functions that a program declares are properties of the global object.
func (m *Machine) hoist(c *code.Code) {
	for _, h := range c.Hoisted {
		m.declareFunction(h.Name, m.makeClosure(c.Functions[h.Function], nil))
	}
}

func (m *Machine) declareFunction(k heap.Key, f heap.Value) {
	p, has := m.Global.Own(k)
	switch {
	case !has || p.Configurable:
		m.Define(m.Global, k, heap.Whole(f, heap.Traits{Writable: true, Enumerable: true}))
	case p.Functions || !p.Writable || !p.Enumerable:
		panic(m.TypeError())
	default:
		m.Put(heap.Of(m.Global), k, f)
	}
}

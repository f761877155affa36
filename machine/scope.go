package machine

import (
	"ecmacore/code"
	"ecmacore/heap"
)

// scope: the variables of a call, or of a catch. Functions that are made in it keep it.
type scope struct {
	outer     *scope
	variables []heap.Value
	met       int // the collector's mark
}

// Hold: what the variables are, here and further out. Many functions may keep one scope: once is enough.
func (s *scope) Hold(k *heap.Marker) {
	for ; s != nil && k.First(&s.met); s = s.outer {
		for _, v := range s.variables {
			k.Value(v)
		}
	}
}

// variable that an instruction speaks of.
func (s *scope) variable(in code.Instr) *heap.Value {
	for range in.Up {
		s = s.outer
	}
	return &s.variables[in.Arg]
}

func (m *Machine) variables(f *frame, in code.Instr) {
	v := f.scope.variable(in)
	switch in.Op {
	case code.ReadVariable:
		m.push(*v)
	case code.WriteVariable:
		*v = m.top(0)
	case code.RefuseVariable:
		panic(m.TypeError())
	}
}

package machine

import (
	"ecmacore/api"
	"ecmacore/code"
	"ecmacore/heap"
)

// execute: up to the end of the code. What an instruction works on stays on the stack until nothing more is called: the collector knows of it there.
func (m *Machine) execute(f *frame) {
	for {
		in := f.code.Instrs[f.at]
		f.at++
		switch {
		case in.Op == code.End:
			return
		case in.Op == code.Return:
			f.gives = m.pop()
			return
		case in.Op == code.Step:
			m.ownStep()
			m.collectIfDue()
		case in.Op == code.Throw:
			panic(Thrown{Value: m.pop()})
		case in.Op <= code.JumpCase:
			m.jump(f, in)
		case in.Op <= code.EndKeys:
			m.regions(f, in)
		case in.Op <= code.Under:
			m.moves(f, in)
		case in.Op <= code.WriteName:
			m.names(in.Op, f.code.Keys[in.Arg])
		case in.Op <= code.RefuseVariable:
			m.variables(f, in)
		case in.Op <= code.DeleteIndex:
			m.members(f, in)
		case in.Op <= code.New:
			m.calling(in)
		case in.Op <= code.MakeFunction:
			m.literals(f, in)
		case in.Op < code.Binary:
			m.replace(1, m.unary(in.Op, m.top(0)))
		default:
			m.replace(2, m.binary(in.Op, m.top(1), m.top(0)))
		}
	}
}

// jump: the values that it asks are gone then, but those that are what is given.
func (m *Machine) jump(f *frame, in code.Instr) {
	jumps, gone := true, 1
	switch in.Op {
	case code.Jump:
		gone = 0
	case code.JumpIf:
		jumps = Truth(m.top(0))
	case code.JumpUnless:
		jumps = !Truth(m.top(0))
	case code.JumpOr, code.JumpAnd:
		if jumps = Truth(m.top(0)) == (in.Op == code.JumpOr); jumps {
			gone = 0
		}
	case code.JumpCase:
		if jumps = m.top(0) == m.top(1); jumps {
			gone = 2
		}
	}
	m.drop(gone)
	if jumps {
		f.at = in.Arg
	}
}

func (m *Machine) names(op code.Op, k heap.Key) {
	p, who, has := m.Global.Find(k)
	if !has && op != code.AskName {
		panic(m.ReferenceError())
	}
	global := heap.Of(m.Global)
	if op == code.WriteName {
		m.putFound(global, k, m.top(0), p, who)
	} else {
		m.push(m.given(p, global))
	}
}

func (m *Machine) members(f *frame, in code.Instr) {
	switch in.Op {
	case code.Solid:
		m.solid(m.top(0))
	case code.Place:
		m.solid(m.top(1))
		m.replace(1, m.plainKey(m.top(0)))
	case code.ReadDot:
		m.replace(1, m.readDot(&f.code.Dots[in.Arg], m.top(0)))
	case code.MethodDot:
		m.push(m.readDot(&f.code.Dots[in.Arg], m.top(0)))
	case code.ReadIndex:
		m.replace(2, m.atIndex())
	case code.MethodIndex:
		m.replace(1, m.atIndex())
	case code.WriteDot:
		m.writeDot(&f.code.Dots[in.Arg], m.top(1), m.top(0))
		m.replace(2, m.top(0))
	case code.WriteIndex:
		m.Put(m.top(2), m.Key(m.top(1)), m.top(0))
		m.replace(3, m.top(0))
	case code.DeleteDot:
		m.Delete(m.Object(m.top(0)), f.code.Keys[in.Arg])
		m.replace(1, heap.Boolean(true))
	case code.DeleteIndex:
		m.Delete(m.Object(m.top(1)), m.Key(m.top(0)))
		m.replace(2, heap.Boolean(true))
	}
}

// plainKey: a key that is an object is taken for a string now. Of all others that can be done later: nobody can tell.
func (m *Machine) plainKey(v heap.Value) heap.Value {
	if v.Kind == api.Object {
		return m.String(v)
	}
	return v
}

// atIndex: the value at the key on the top. The object must have properties, before the key is taken for a string.
func (m *Machine) atIndex() heap.Value {
	m.solid(m.top(1))
	return m.Get(m.top(1), m.Key(m.top(0)))
}

func (m *Machine) calling(in code.Instr) {
	args := m.take(in.Arg)
	f := m.pop()
	if in.Op == code.New {
		m.push(m.construct(f, args))
		return
	}
	if !IsFunction(f) {
		panic(m.TypeError())
	}
	m.push(m.Call(f.Ref, m.pop(), args...))
}

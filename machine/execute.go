package machine

import (
	"ecmacore/api"
	"ecmacore/code"
	"ecmacore/heap"
)

// frame: code that is being run, and on what.
type frame struct {
	code *code.Code
	at   int // the next instruction
	this heap.Value
}

// execute: up to the end of the code.
func (m *Machine) execute(f *frame) {
	for {
		in := f.code.Instrs[f.at]
		f.at++
		switch {
		case in.Op == code.End:
			return
		case in.Op <= code.JumpCase:
			m.jump(f, in)
		case in.Op == code.Step:
			m.Step()
			m.collectIfMany()
		case in.Op == code.Throw:
			panic(Thrown{Value: m.pop()})
		case in.Op <= code.Under:
			m.moves(f, in)
		case in.Op <= code.WriteName:
			m.names(in.Op, f.code.Keys[in.Arg])
		case in.Op <= code.DeleteIndex:
			m.members(f, in)
		case in.Op <= code.New:
			m.calling(in)
		case in.Op <= code.MakeRegex:
			m.literals(f, in)
		case in.Op < code.Binary:
			m.push(m.unary(in.Op, m.pop()))
		default:
			right := m.pop()
			m.push(m.binary(in.Op, m.pop(), right))
		}
	}
}

// jump: the values that it asks are gone then, but those that are what is given.
func (m *Machine) jump(f *frame, in code.Instr) {
	jumps, gone := true, 1
	switch in.Op {
	case code.Jump:
		gone = 0
	case code.JumpIf:
		jumps = Truth(m.top(0))
	case code.JumpUnless:
		jumps = !Truth(m.top(0))
	case code.JumpOr, code.JumpAnd:
		if jumps = Truth(m.top(0)) == (in.Op == code.JumpOr); jumps {
			gone = 0
		}
	case code.JumpCase:
		if jumps = m.top(0) == m.top(1); jumps {
			gone = 2
		}
	}
	m.drop(gone)
	if jumps {
		f.at = in.Arg
	}
}

func (m *Machine) names(op code.Op, k heap.Key) {
	p, who, has := m.Global.Find(k)
	if !has && op != code.AskName {
		panic(m.ReferenceError())
	}
	global := heap.Of(m.Global)
	if op == code.WriteName {
		m.putFound(global, k, m.top(0), p, who)
	} else {
		m.push(m.given(p, global))
	}
}

func (m *Machine) members(f *frame, in code.Instr) {
	switch in.Op {
	case code.Solid:
		m.solid(m.top(0))
	case code.Place:
		m.solid(m.top(1))
		m.push(m.plainKey(m.pop()))
	case code.ReadDot:
		m.push(m.Get(m.pop(), f.code.Keys[in.Arg]))
	case code.MethodDot:
		m.push(m.Get(m.top(0), f.code.Keys[in.Arg]))
	case code.ReadIndex, code.MethodIndex:
		m.readIndex(in.Op)
	case code.WriteDot:
		v := m.pop()
		m.Put(m.pop(), f.code.Keys[in.Arg], v)
		m.push(v)
	case code.WriteIndex:
		v, k := m.pop(), m.Key(m.pop())
		m.Put(m.pop(), k, v)
		m.push(v)
	case code.DeleteDot:
		m.remove(f.code.Keys[in.Arg])
	case code.DeleteIndex:
		m.remove(m.Key(m.pop()))
	}
}

// plainKey: a key that is an object is taken for a string now. Of all others that can be done later: nobody can tell.
func (m *Machine) plainKey(v heap.Value) heap.Value {
	if v.Kind == api.Object {
		return m.String(v)
	}
	return v
}

// readIndex: the object must have properties, before the key is taken for a string. To be called on it, it stays.
func (m *Machine) readIndex(op code.Op) {
	m.solid(m.top(1))
	k := m.Key(m.pop())
	v := m.Get(m.top(0), k)
	if op == code.ReadIndex {
		m.drop(1)
	}
	m.push(v)
}

func (m *Machine) remove(k heap.Key) {
	m.Delete(m.Object(m.pop()), k)
	m.push(heap.Boolean(true))
}

func (m *Machine) calling(in code.Instr) {
	args := m.take(in.Arg)
	f := m.pop()
	if in.Op == code.New {
		m.push(m.construct(f, args))
		return
	}
	if !IsFunction(f) {
		panic(m.TypeError())
	}
	m.push(m.Call(f.Ref, m.pop(), args...))
}

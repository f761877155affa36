package machine

import (
	"ecmacore/code"
	"ecmacore/heap"
)

func (m *Machine) push(v heap.Value) { m.stack = append(m.stack, v) }

func (m *Machine) pop() heap.Value {
	v := m.top(0)
	m.drop(1)
	return v
}

// top: the value beneath so many others.
func (m *Machine) top(beneath int) heap.Value { return m.stack[len(m.stack)-1-beneath] }

func (m *Machine) drop(n int) { m.stack = m.stack[:len(m.stack)-n] }

// replace: a value comes in the place of the topmost.
func (m *Machine) replace(n int, v heap.Value) {
	m.drop(n)
	m.push(v)
}

// take: the topmost values, in a list of their own: a function may keep it.
func (m *Machine) take(n int) []heap.Value {
	l := make([]heap.Value, n)
	copy(l, m.stack[len(m.stack)-n:])
	m.drop(n)
	return l
}

// copyTop: the topmost values once more.
func (m *Machine) copyTop(n int) { m.stack = append(m.stack, m.stack[len(m.stack)-n:]...) }

// under: the top goes beneath so many others.
func (m *Machine) under(n int) {
	l := m.stack[len(m.stack)-1-n:]
	v := l[n]
	copy(l[1:], l[:n])
	l[0] = v
}

// moves: what an instruction does that looks at no value.
func (m *Machine) moves(f *frame, in code.Instr) {
	switch in.Op {
	case code.Nothing:
		m.push(heap.Value{})
	case code.Push:
		m.push(f.code.Values[in.Arg])
	case code.This:
		m.push(f.this)
	case code.Pop:
		m.drop(1)
	case code.Copy:
		m.copyTop(1)
	case code.CopyTwo:
		m.copyTop(2)
	case code.Under:
		m.under(in.Arg)
	}
}

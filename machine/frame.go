package machine

import (
	"ecmacore/code"
	"ecmacore/heap"
)

// frame: code that is being run, and on what.
type frame struct {
	outer *frame // what is being run around it
	code  *code.Code
	at    int // the next instruction
	this  heap.Value
	gives heap.Value // when it has ended

	scope   *scope
	catches int // how many of the scopes are catches' in this code
	walks   []*walk

	values, calls, shut int // what the machine had when it began
}

// Hold: what its code can reach, and remembers.
func (f *frame) Hold(k *heap.Marker) {
	f.code.Hold(k)
	k.Value(f.this)
	f.scope.Hold(k)
	for _, w := range f.walks {
		w.Hold(k)
	}
}

// complete: the frame's code up to its end; what it gives.
func (m *Machine) complete(f *frame) heap.Value {
	f.outer, f.values, f.calls, f.shut = m.frame, len(m.stack), m.calls, m.shut
	m.frame = f
	m.collectIfDue()
	if len(f.code.Guards) == 0 {
		m.execute(f)
	} else {
		m.guarded(f)
	}
	m.frame = f.outer
	return f.gives
}

// guarded: likewise; what is thrown and caught in the code does not leave it.
func (m *Machine) guarded(f *frame) {
	for {
		end := m.attempt(f)
		if end == nil {
			return
		}
		if !m.caught(f, end) {
			panic(end)
		}
	}
}

// attempt: nil, or what ended it ahead of the code's end.
func (m *Machine) attempt(f *frame) (end any) {
	defer func() { end = recover() }()
	m.execute(f)
	return nil
}

// caught: whether something was thrown that the code catches; then the machine is as it was, and the frame goes on there. That there are no more steps is never caught.
func (m *Machine) caught(f *frame, end any) bool {
	t, ok := end.(Thrown)
	if !ok {
		return false
	}
	g, has := f.code.GuardOf(f.at - 1)
	if !has {
		return false
	}
	m.frame, m.calls, m.shut = f, f.calls, f.shut
	m.drop(len(m.stack) - f.values - g.Values)
	for f.catches > g.Catches {
		f.leaveCatch()
	}
	f.walks = f.walks[:g.ForIns]
	m.push(t.Value)
	f.at = g.Target
	return true
}

func (f *frame) enterCatch(v heap.Value) {
	f.scope = &scope{outer: f.scope, variables: []heap.Value{v}}
	f.catches++
}

func (f *frame) leaveCatch() {
	f.scope = f.scope.outer
	f.catches--
}

// regions: finally blocks, catches and for ins are entered and left.
func (m *Machine) regions(f *frame, in code.Instr) {
	switch in.Op {
	case code.Visit:
		m.push(heap.Number(float64(f.at)))
		f.at = in.Arg
	case code.Resume:
		m.resume(f)
	case code.EnterCatch:
		f.enterCatch(m.pop())
	case code.LeaveCatch:
		f.leaveCatch()
	case code.StartKeys:
		f.walks = append(f.walks, m.keysOf(m.pop()))
	case code.NextKey:
		if !f.walk().next() {
			f.at = in.Arg
		}
	case code.PushKey:
		m.push(f.walk().text())
	case code.EndKeys:
		f.walks = f.walks[:len(f.walks)-1]
	}
}

func (m *Machine) resume(f *frame) {
	at := int(m.pop().Num)
	if at == code.Nowhere {
		panic(Thrown{Value: m.pop()})
	}
	f.at = at
}

// walk: the innermost.
func (f *frame) walk() *walk { return f.walks[len(f.walks)-1] }

package machine

import (
	"ecmacore/api"
	"ecmacore/code"
	"ecmacore/heap"
)

// Thrown is what goes through everything as a panic, when a value is thrown.
type Thrown struct {
	Value heap.Value
}

// Cut ends a run that has no more steps.
type Cut struct{}

// TypeError is to be thrown, as are those below.
func (m *Machine) TypeError() Thrown { return m.failure(m.Prototypes.TypeError) }

// RangeError is another.
func (m *Machine) RangeError() Thrown { return m.failure(m.Prototypes.RangeError) }

// ReferenceError is another.
func (m *Machine) ReferenceError() Thrown { return m.failure(m.Prototypes.ReferenceError) }

// SyntaxError is another.
func (m *Machine) SyntaxError() Thrown { return m.failure(m.Prototypes.SyntaxError) }

func (m *Machine) failure(behind *heap.Object) Thrown {
	return Thrown{Value: heap.Of(m.Make(ErrorClass, behind))}
}

// Run: a program's code, for so many steps.
func (m *Machine) Run(c *code.Code, steps int) (r api.Result) {
	const mostSteps = 1 << 20
	m.run = run{most: min(max(steps, 0), mostSteps)}
	defer func() { r = m.ended(recover()) }()
	m.hoist(c)
	m.declare(c.Declared)
	m.complete(&frame{code: c, this: heap.Of(m.Global)})
	return r
}

// declare: variables of a program are properties of the global object.
func (m *Machine) declare(names []heap.Key) {
	for _, k := range names {
		if _, has := m.Global.Own(k); !has {
			m.Define(m.Global, k, heap.Whole(heap.Value{}, heap.Traits{Writable: true, Enumerable: true}))
		}
	}
}

// ended: the result of a run, by what was thrown; and the machine is ready for the next. It hides no fault of the program itself.
func (m *Machine) ended(end any) api.Result {
	r := api.Result{Lines: m.lines, Steps: m.steps}
	switch e := end.(type) {
	case nil:
		r.How = api.Ended
	case Cut:
		r.How = api.Cut
	case Thrown:
		r.How, r.Text = api.Thrown, m.told(e.Value)
	default:
		panic(end)
	}
	m.run, m.stack, m.frame, m.calls, m.shut = run{}, nil, nil, 0, 0
	m.collectIfDue()
	return r
}

// told: how a result tells what was thrown. Nothing is called for that.
func (m *Machine) told(v heap.Value) string {
	if v.Kind != api.Object {
		return TypeOf(v) + " " + m.String(v).Text
	}
	text := v.Ref.Class
	for _, name := range []string{"name", "message"} {
		p, _, has := v.Ref.Find(heap.Key{Name: name})
		if has && p.Value.Kind == api.String {
			text += " " + p.Value.Text
		}
	}
	return text
}

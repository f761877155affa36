package library

import (
	"ecmacore/api"
	"ecmacore/heap"
	"ecmacore/machine"
)

// completeRegExp: what there is from level 2 on.
func completeRegExp(m *machine.Machine) {
	p := m.Prototypes.RegExp
	m.BecomePattern(p, m.NewPattern(heap.String(""), heap.String("")))
	setMaker(m, "RegExp", 2, p, &machine.Function{Call: callRegExp, New: makeRegExp})
	setFunction(m, p, "exec", 1, exec)
	setFunction(m, p, "test", 1, test)
	setFunction(m, p, "toString", 0, patternText)
}

func callRegExp(m *machine.Machine, _ heap.Value, args []heap.Value) heap.Value {
	v := machine.Arg(args, 0)
	if machine.PatternOf(v) != nil && machine.Arg(args, 1).Kind == api.Undefined {
		return v
	}
	return makeRegExp(m, args)
}

func makeRegExp(m *machine.Machine, args []heap.Value) heap.Value {
	v, flags := machine.Arg(args, 0), machine.Arg(args, 1)
	if p := machine.PatternOf(v); p != nil {
		if flags.Kind != api.Undefined {
			panic(m.TypeError())
		}
		return heap.Of(m.MakePattern(p))
	}
	source := textOr(m, v, "")
	return heap.Of(m.MakePattern(m.NewPattern(source, textOr(m, flags, ""))))
}

// needPattern: TypeError, if a value has none.
func needPattern(m *machine.Machine, v heap.Value) *machine.Pattern {
	p := machine.PatternOf(v)
	if p == nil {
		panic(m.TypeError())
	}
	return p
}

func exec(m *machine.Machine, this heap.Value, args []heap.Value) heap.Value {
	p := needPattern(m, this)
	return subjectOf(m, m.String(machine.Arg(args, 0))).exec(this.Ref, p)
}

func test(m *machine.Machine, this heap.Value, args []heap.Value) heap.Value {
	return heap.Boolean(exec(m, this, args).Kind != api.Null)
}

func patternText(m *machine.Machine, this heap.Value, _ []heap.Value) heap.Value {
	p := needPattern(m, this)
	var text machine.Text
	for _, v := range []heap.Value{heap.String("/"), p.Source, heap.String("/"), heap.String(p.Flags)} {
		text.Add(m, v)
	}
	return text.Value()
}

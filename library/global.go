package library

import (
	"math"

	"ecmacore/heap"
	"ecmacore/machine"
)

func fillGlobal(m *machine.Machine) {
	set(m, m.Global, "NaN", heap.Number(math.NaN()), heap.Traits{})
	set(m, m.Global, "Infinity", heap.Number(math.Inf(1)), heap.Traits{})
	set(m, m.Global, "undefined", heap.Value{}, heap.Traits{})
	setFunction(m, m.Global, "print", 1, printLine)
}

func printLine(m *machine.Machine, _ heap.Value, args []heap.Value) heap.Value {
	parts := make([]heap.Value, len(args))
	for i, v := range args {
		parts[i] = m.String(v)
	}
	m.Print(parts)
	return heap.Value{}
}

package library

import (
	"math"

	"ecmacore/heap"
	"ecmacore/machine"
	"ecmacore/num"
)

func fillGlobal(m *machine.Machine) {
	set(m, m.Global, "NaN", heap.Number(math.NaN()), heap.Traits{})
	set(m, m.Global, "Infinity", heap.Number(math.Inf(1)), heap.Traits{})
	set(m, m.Global, "undefined", heap.Value{}, heap.Traits{})
	setFunction(m, m.Global, "print", 1, printLine)
}

// completeGlobal: what there is from level 2 on.
func completeGlobal(m *machine.Machine) {
	setFunction(m, m.Global, "parseInt", 2, parseInt)
	setFunction(m, m.Global, "parseFloat", 1, parseFloat)
	setFunction(m, m.Global, "isNaN", 1, isNaN)
	setFunction(m, m.Global, "isFinite", 1, isFinite)
}

func parseInt(m *machine.Machine, _ heap.Value, args []heap.Value) heap.Value {
	text := m.String(machine.Arg(args, 0))
	base := m.Number(machine.Arg(args, 1))
	return heap.Number(num.ReadInt(text.Text, base))
}

func parseFloat(m *machine.Machine, _ heap.Value, args []heap.Value) heap.Value {
	return heap.Number(num.ReadFloat(m.String(machine.Arg(args, 0)).Text))
}

func isNaN(m *machine.Machine, _ heap.Value, args []heap.Value) heap.Value {
	return heap.Boolean(math.IsNaN(m.Number(machine.Arg(args, 0))))
}

func isFinite(m *machine.Machine, _ heap.Value, args []heap.Value) heap.Value {
	x := m.Number(machine.Arg(args, 0))
	return heap.Boolean(x-x == 0)
}

func printLine(m *machine.Machine, _ heap.Value, args []heap.Value) heap.Value {
	parts := make([]heap.Value, len(args))
	for i, v := range args {
		parts[i] = m.String(v)
	}
	m.Print(parts)
	return heap.Value{}
}

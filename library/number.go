package library

import (
	"math"

	"ecmacore/api"
	"ecmacore/heap"
	"ecmacore/machine"
	"ecmacore/num"
)

// completeNumber: what there is from level 2 on.
func completeNumber(m *machine.Machine) {
	p := m.Prototypes.Number
	f := setBoxer(m, "Number", p, makeNumber)
	setNumber(m, f, "MAX_VALUE", math.MaxFloat64)
	setNumber(m, f, "MIN_VALUE", math.SmallestNonzeroFloat64)
	setNumber(m, f, "NaN", math.NaN())
	setNumber(m, f, "NEGATIVE_INFINITY", math.Inf(-1))
	setNumber(m, f, "POSITIVE_INFINITY", math.Inf(1))
	setFunction(m, p, "toLocaleString", 0, numberLocaleText)
	setFunction(m, p, "toFixed", 1, toFixed)
	setFunction(m, p, "toExponential", 1, toExponential)
	setFunction(m, p, "toPrecision", 1, toPrecision)
}

// setNumber: one that stays.
func setNumber(m *machine.Machine, o *heap.Object, name string, x float64) {
	set(m, o, name, heap.Number(x), heap.Traits{})
}

func makeNumber(m *machine.Machine, args []heap.Value) heap.Value {
	if len(args) == 0 {
		return heap.Number(0)
	}
	return heap.Number(m.Number(args[0]))
}

func numberLocaleText(m *machine.Machine, this heap.Value, _ []heap.Value) heap.Value {
	return m.String(unboxed(m, this, api.Number))
}

// digitsOf: the number of this, and how many digits the argument asks for.
func digitsOf(m *machine.Machine, this heap.Value, args []heap.Value) (float64, int) {
	x := unboxed(m, this, api.Number).Num
	return x, within(integer(m, machine.Arg(args, 0)))
}

// written: a number with digits; RangeError, if there cannot be so many.
func written(m *machine.Machine, text string, err error) heap.Value {
	if err != nil {
		panic(m.RangeError())
	}
	return heap.String(text)
}

func toFixed(m *machine.Machine, this heap.Value, args []heap.Value) heap.Value {
	x, n := digitsOf(m, this, args)
	text, err := num.Fixed(x, n)
	return written(m, text, err)
}

func toExponential(m *machine.Machine, this heap.Value, args []heap.Value) heap.Value {
	const asMany, tooMany = -1, 21 // as tell the number; as there cannot be
	x, n := digitsOf(m, this, args)
	switch {
	case machine.Arg(args, 0).Kind == api.Undefined:
		n = asMany
	case n < 0:
		n = tooMany
	}
	text, err := num.Exponential(x, n)
	return written(m, text, err)
}

func toPrecision(m *machine.Machine, this heap.Value, args []heap.Value) heap.Value {
	x, n := digitsOf(m, this, args)
	if machine.Arg(args, 0).Kind == api.Undefined {
		return m.String(heap.Number(x))
	}
	text, err := num.Precision(x, n)
	return written(m, text, err)
}

// completeBoolean: what there is from level 2 on.
func completeBoolean(m *machine.Machine) {
	setBoxer(m, "Boolean", m.Prototypes.Boolean, makeBoolean)
}

func makeBoolean(_ *machine.Machine, args []heap.Value) heap.Value {
	return heap.Boolean(machine.Truth(machine.Arg(args, 0)))
}

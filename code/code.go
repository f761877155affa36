// Package code: what the machine does, instruction by instruction, and how a program's tree becomes that: see chapter 7.
package code

import (
	"ecmacore/heap"
	"ecmacore/regex"
)

// Op is what an instruction does. Most of them take values from the top of the stack, and put there what they give.
type Op int

// In brackets: what an op takes, the top last, and what it puts there. A target is an instruction's number. Ops that are alike stand together: the machine tells them apart by their order.
const (
	End    Op = iota // the code ends; a function gives undefined
	Return           // [value] the function ends, and gives it
	Step             // of the run
	Throw            // [value]

	Jump       // to the target Arg
	JumpIf     // [test] to Arg, if the test is taken for true
	JumpUnless // [test] to Arg, if it is not
	JumpOr     // [left -> left] to Arg, if it is taken for true; else [left]
	JumpAnd    // [left -> left] to Arg, if it is not; else [left]
	JumpCase   // [value case] to Arg, if these are ===; else [value case -> value]

	Visit      // [value -> value address] to the finally block at Arg; the address is the next instruction's
	Resume     // [value address -> value] the block ends: back to the address; [value address] if that is Nowhere: it is thrown
	EnterCatch // [value] a scope is made with it as its variable
	LeaveCatch // that scope is left
	StartKeys  // [object] the keys for a for in are gathered
	NextKey    // the next of them; to Arg, if there is none
	PushKey    // [-> key] that one
	EndKeys    // of the for in

	Nothing // [-> undefined]
	Push    // [-> value] the value Arg
	This    // [-> this]
	Pop     // [value]
	Copy    // [value -> value value]
	CopyTwo // [a b -> a b a b]
	Under   // [.. value -> value ..] it goes beneath Arg others

	ReadName  // [-> value] of the key Arg of the global object
	AskName   // [-> value] likewise; undefined, if the name is nowhere
	WriteName // [value -> value] to the key Arg

	ReadVariable   // [-> value] of the variable Arg, Up scopes further out
	WriteVariable  // [value -> value] to it
	RefuseVariable // [value] TypeError: it cannot be assigned

	Solid       // [object -> object] TypeError, if it is undefined or null
	Place       // [object key -> object key] likewise; then the key is no object any more
	ReadDot     // [object -> value] the dot Arg
	ReadIndex   // [object key -> value]
	MethodDot   // [object -> object value] the dot Arg
	MethodIndex // [object key -> object value]
	WriteDot    // [object value -> value] the dot Arg
	WriteIndex  // [object key value -> value]
	DeleteDot   // [object -> true] the key Arg
	DeleteIndex // [object key -> true]
	Call        // [this function .. -> value] with Arg arguments
	New         // [function .. -> value] with Arg arguments

	MakeArray    // [-> array]
	SetElement   // [array value -> array] at the place Arg
	SkipElement  // [array -> array] the place Arg is left out
	MakeObject   // [-> object]
	SetProperty  // [object value -> object] the key Arg
	SetGet       // [object function -> object] likewise: what is called when it is read
	SetSet       // [object function -> object] likewise: when it is written
	MakeRegex    // [-> object] of the pattern Arg
	MakeFunction // [-> function] of the code Arg, in this scope

	ToNumber // [value -> number]; from here on up to Binary: one operand
	More     // [number -> number] by one
	Less     // [number -> number] by one
	Plus
	Minus
	Turn // bit by bit: ~
	Not
	TypeOf

	Binary // no op: from here on two operands
	Add
	Subtract
	Multiply
	Divide
	Rest
	ShiftLeft
	ShiftRight
	ShiftZeros // >>>
	BitAnd
	BitXor
	BitOr
	Below
	Above
	AtMost
	AtLeast
	Identical
	NotIdentical
	Equal
	NotEqual
	In
	InstanceOf
)

// Instr is an instruction.
type Instr struct {
	Op  Op
	Arg int
	Up  int
}

// Pattern is one that stands in the program.
type Pattern struct {
	Source   heap.Value // its text
	Flags    string
	Compiled *regex.Pattern
}

// Nowhere is the address behind a finally block that something thrown led to; None, where a variable's number stands: there is no such variable.
const (
	Nowhere = -1
	None    = -1
)

// Guard: what is thrown by an instruction from From on, but ahead of To, is caught: it is the top of the stack at the instruction Target. What was begun since then is left: there are so many values beneath it, catches and for ins of this code.
type Guard struct {
	From, To, Target        int
	Values, Catches, ForIns int
}

// Hoisted is a function that is declared: where its code stands, and its name: in a function a variable has it.
type Hoisted struct {
	Function int
	Name     heap.Key
	Variable int
}

// Code is a program's, or a function's.
type Code struct {
	Instrs    []Instr
	Values    []heap.Value // those that are pushed
	Keys      []heap.Key   // names, and keys in { } and of what is deleted
	Dots      []heap.Dot   // each place where a property is read or written by its name, which remembers what it met
	Patterns  []Pattern
	Functions []*Code   // those that are made in it
	Guards    []Guard   // those that lie within others first
	Hoisted   []Hoisted // in order

	Declared []heap.Key // of a program: the names of its variables, in order

	Params    int // of a function: how many, which are its first variables
	Variables int // how many in all
	Self      int // the variable that is the function itself, or None
	Arguments int // the variable arguments, or None

	met int // the collector's mark
}

// Hold: what its dots remember, and those of the functions that can be made in it. Many functions may have one code: once is enough.
func (c *Code) Hold(k *heap.Marker) {
	if !k.First(&c.met) {
		return
	}
	for i := range c.Dots {
		c.Dots[i].Hold(k)
	}
	for _, f := range c.Functions {
		f.Hold(k)
	}
}

// GuardOf: what catches what the instruction there throws.
func (c *Code) GuardOf(at int) (Guard, bool) {
	for _, g := range c.Guards {
		if g.From <= at && at < g.To {
			return g, true
		}
	}
	return Guard{}, false
}

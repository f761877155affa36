// Package code: what the machine does, instruction by instruction, and how a program's tree becomes that: see chapter 7.
package code

import "ecmacore/heap"

// Op is what an instruction does. Most of them take values from the top of the stack, and put there what they give.
type Op int

// In brackets: what an op takes, the top last, and what it puts there. A target is an instruction's number. Ops that are alike stand together: the machine tells them apart by their order.
const (
	End        Op = iota // the code ends
	Jump                 // to the target Arg
	JumpIf               // [test] to Arg, if the test is taken for true
	JumpUnless           // [test] to Arg, if it is not
	JumpOr               // [left -> left] to Arg, if it is taken for true; else [left]
	JumpAnd              // [left -> left] to Arg, if it is not; else [left]
	JumpCase             // [value case] to Arg, if these are ===; else [value case -> value]
	Step                 // of the run
	Throw                // [value]

	Push    // [-> value] the value Arg
	This    // [-> this]
	Pop     // [value]
	Copy    // [value -> value value]
	CopyTwo // [a b -> a b a b]
	Under   // [.. value -> value ..] it goes beneath Arg others

	ReadName  // [-> value] of the key Arg
	AskName   // [-> value] likewise; undefined, if the name is nowhere
	WriteName // [value -> value] to the key Arg

	Solid       // [object -> object] TypeError, if it is undefined or null
	Place       // [object key -> object key] likewise; then the key is no object any more
	ReadDot     // [object -> value] the key Arg
	ReadIndex   // [object key -> value]
	MethodDot   // [object -> object value] the key Arg
	MethodIndex // [object key -> object value]
	WriteDot    // [object value -> value] the key Arg
	WriteIndex  // [object key value -> value]
	DeleteDot   // [object -> true] the key Arg
	DeleteIndex // [object key -> true]
	Call        // [this function .. -> value] with Arg arguments
	New         // [function .. -> value] with Arg arguments

	MakeArray   // [-> array]
	SetElement  // [array value -> array] at the place Arg
	SkipElement // [array -> array] the place Arg is left out
	MakeObject  // [-> object]
	SetProperty // [object value -> object] the key Arg
	MakeRegex   // [-> object] of the pattern Arg

	ToNumber // [value -> number]; from here on up to Binary: one operand
	More     // [number -> number] by one
	Less     // [number -> number] by one
	Plus
	Minus
	Turn // bit by bit: ~
	Not
	TypeOf

	Binary // no op: from here on two operands
	Add
	Subtract
	Multiply
	Divide
	Rest
	ShiftLeft
	ShiftRight
	ShiftZeros // >>>
	BitAnd
	BitXor
	BitOr
	Below
	Above
	AtMost
	AtLeast
	Identical
	NotIdentical
	Equal
	NotEqual
	In
	InstanceOf
)

// Instr is an instruction.
type Instr struct {
	Op  Op
	Arg int
}

// Pattern is one that stands in the program.
type Pattern struct {
	Source, Flags string
}

// Code is a program's.
type Code struct {
	Instrs   []Instr
	Values   []heap.Value // those that are pushed
	Keys     []heap.Key   // names, and keys behind a point and in { }
	Patterns []Pattern
	Declared []heap.Key // the names of variables, in order
}

package code

import "ecmacore/api"

func unaryOp(text string) Op {
	switch text {
	case "+":
		return Plus
	case "-":
		return Minus
	case "~":
		return Turn
	case "typeof":
		return TypeOf
	}
	return Not
}

func countOp(text string) Op {
	if text == "++" {
		return More
	}
	return Less
}

func binaryOp(text string) Op {
	switch text {
	case "+":
		return Add
	case "-":
		return Subtract
	case "*":
		return Multiply
	case "/":
		return Divide
	case "%":
		return Rest
	case "<<":
		return ShiftLeft
	case ">>":
		return ShiftRight
	case ">>>":
		return ShiftZeros
	case "&":
		return BitAnd
	case "^":
		return BitXor
	case "|":
		return BitOr
	}
	return relationOp(text)
}

func relationOp(text string) Op {
	switch text {
	case "<":
		return Below
	case ">":
		return Above
	case "<=":
		return AtMost
	case ">=":
		return AtLeast
	case "===":
		return Identical
	case "!==":
		return NotIdentical
	case "==":
		return Equal
	case "!=":
		return NotEqual
	case "in":
		return In
	}
	return InstanceOf
}

// setOp: what becomes a property in { } is set by it.
func setOp(kind int) Op {
	switch kind {
	case api.NGet:
		return SetGet
	case api.NSet:
		return SetSet
	}
	return SetProperty
}

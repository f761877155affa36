package parse

import "ecmacore/api"

// strength: of an operator between two operands, from the weakest on; 0: it is none.
func strength(word string) int {
	switch word {
	case "||":
		return 1
	case "&&":
		return 2
	case "|":
		return 3
	case "^":
		return 4
	case "&":
		return 5
	case "==", "!=", "===", "!==":
		return 6
	case "<", ">", "<=", ">=", "instanceof", "in":
		return 7
	case "<<", ">>", ">>>":
		return 8
	case "+", "-":
		return 9
	case "*", "/", "%":
		return 10
	}
	return 0
}

// kindBy: of the node of such an operator.
func kindBy(word string) int {
	switch word {
	case "||":
		return api.NOr
	case "&&":
		return api.NAnd
	}
	return api.NBinary
}

func isUnary(word string) bool {
	switch word {
	case "delete", "void", "typeof", "++", "--", "+", "-", "~", "!":
		return true
	}
	return false
}

// counts: up or down.
func counts(word string) bool { return word == "++" || word == "--" }

func assigns(word string) bool {
	switch word {
	case "=", "*=", "/=", "%=", "+=", "-=", "<<=", ">>=", ">>>=", "&=", "^=", "|=":
		return true
	}
	return false
}

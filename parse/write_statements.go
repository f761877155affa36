package parse

import "ecmacore/api"

func (w *writer) program(n *api.Node) {
	if n.Kind != api.NProgram {
		panic(api.ErrSyntax)
	}
	w.statements(n, 0)
}

// statements: the parts from that one on.
func (w *writer) statements(n *api.Node, from int) {
	for i := from; i < len(n.Kids); i++ {
		w.statement(part(n, i))
	}
}

func (w *writer) statement(n *api.Node) {
	switch n.Kind {
	case api.NBlock:
		w.block(n)
	case api.NEmpty:
		w.put(";")
	case api.NExpr:
		w.start = len(w.b)
		w.expression(part(n, 0), comma)
		w.put(";")
	case api.NVar:
		w.variables(n)
		w.put(";")
	case api.NDo, api.NWhile, api.NFor, api.NForIn:
		w.loop(n)
	case api.NContinue, api.NBreak, api.NReturn, api.NThrow:
		w.leave(n)
	case api.NFunc:
		w.put("function")
		w.name(n.Text)
		w.rest(n)
	case api.NLabel:
		w.name(n.Text)
		w.put(":")
		w.statement(part(n, 0))
	default:
		w.choice(n)
	}
}

// choice: statements that have others in them, but loops.
func (w *writer) choice(n *api.Node) {
	switch n.Kind {
	case api.NIf:
		w.put("if")
		w.bracketed(part(n, 0))
		w.statement(part(n, 1))
		if other := part(n, 2); other.Kind != api.NNone {
			w.put("else")
			w.statement(other)
		}
	case api.NSwitch:
		w.put("switch")
		w.bracketed(part(n, 0))
		w.put("{")
		for i := range n.Kids[1:] {
			w.clause(partOf(api.NCase, n, i+1))
		}
		w.put("}")
	case api.NTry:
		w.try(n)
	default:
		panic(api.ErrSyntax)
	}
}

func (w *writer) block(n *api.Node) {
	w.put("{")
	w.statements(n, 0)
	w.put("}")
}

func (w *writer) clause(n *api.Node) {
	if value := part(n, 0); value.Kind == api.NNone {
		w.put("default")
	} else {
		w.put("case")
		w.expression(value, comma)
	}
	w.put(":")
	w.statements(n, 1)
}

func (w *writer) try(n *api.Node) {
	w.put("try")
	w.block(partOf(api.NBlock, n, 0))
	if part(n, 1).Kind != api.NNone {
		caught := partOf(api.NCatch, n, 1)
		w.put("catch", "(")
		w.name(caught.Text)
		w.put(")")
		w.block(partOf(api.NBlock, caught, 0))
	}
	if part(n, 2).Kind != api.NNone {
		w.put("finally")
		w.block(partOf(api.NBlock, n, 2))
	}
}

func (w *writer) variables(n *api.Node) {
	w.put("var")
	for i := range n.Kids {
		d := partOf(api.NDecl, n, i)
		if i > 0 {
			w.put(",")
		}
		w.name(d.Text)
		if value := part(d, 0); value.Kind != api.NNone {
			w.put("=")
			w.expression(value, assign)
		}
	}
}

func (w *writer) leave(n *api.Node) {
	switch n.Kind {
	case api.NContinue:
		w.put("continue")
		w.optionalName(n.Text)
	case api.NBreak:
		w.put("break")
		w.optionalName(n.Text)
	case api.NReturn:
		w.put("return")
		w.optional(part(n, 0))
	case api.NThrow:
		w.put("throw")
		w.expression(part(n, 0), comma)
	}
	w.put(";")
}

func (w *writer) loop(n *api.Node) {
	switch n.Kind {
	case api.NDo:
		w.put("do")
		w.statement(part(n, 0))
		w.put("while")
		w.bracketed(part(n, 1))
		w.put(";")
	case api.NWhile:
		w.put("while")
		w.bracketed(part(n, 0))
		w.statement(part(n, 1))
	case api.NFor:
		w.put("for", "(")
		w.first(part(n, 0), comma)
		w.put(";")
		w.optional(part(n, 1))
		w.put(";")
		w.optional(part(n, 2))
		w.put(")")
		w.statement(part(n, 3))
	case api.NForIn:
		w.put("for", "(")
		w.first(part(n, 0), call)
		w.put(" in")
		w.expression(part(n, 1), comma)
		w.put(")")
		w.statement(part(n, 2))
	}
}

// first: what stands first in a for.
func (w *writer) first(n *api.Node, weakest int) {
	w.noIn = true
	switch n.Kind {
	case api.NVar:
		w.variables(n)
	case api.NNone:
	default:
		w.expression(n, weakest)
	}
	w.noIn = false
}

func (w *writer) optional(n *api.Node) {
	if n.Kind != api.NNone {
		w.expression(n, comma)
	}
}

// rest: of a function: its parameters and its body.
func (w *writer) rest(n *api.Node) {
	params := partOf(api.NParams, n, 0)
	w.put("(")
	for i := range params.Kids {
		if i > 0 {
			w.put(",")
		}
		w.name(partOf(api.NName, params, i).Text)
	}
	w.put(")")
	outer := w.noIn
	w.noIn = false
	w.block(partOf(api.NBlock, n, 1))
	w.noIn = outer
}

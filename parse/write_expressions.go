package parse

import "ecmacore/api"

// How strong an expression holds together, from the weakest on. Binary operators lie between cond and unary.
const (
	comma  = 0
	assign = 1
	cond   = 2
	unary  = cond + 1 + 10 // strength is 10 at most
	post   = unary + 1
	call   = post + 1
	member = call + 1
	whole  = member + 1
)

// holds: how strong.
func holds(n *api.Node) int {
	switch n.Kind {
	case api.NComma:
		return comma
	case api.NAssign:
		return assign
	case api.NCond:
		return cond
	case api.NOr, api.NAnd, api.NBinary:
		return cond + strength(operator(n))
	case api.NUnary:
		return unary
	case api.NPost:
		return post
	case api.NCall:
		return call
	case api.NDot, api.NIndex, api.NNew:
		return member
	}
	return whole
}

// operator: of two operands; throws, if it is none.
func operator(n *api.Node) string {
	switch n.Kind {
	case api.NOr:
		return "||"
	case api.NAnd:
		return "&&"
	}
	if strength(n.Text) == 0 || kindBy(n.Text) != api.NBinary {
		panic(api.ErrSyntax)
	}
	return n.Text
}

// expression: in brackets, where it is weaker than what may stand here, and where it would be read as something else.
func (w *writer) expression(n *api.Node, weakest int) {
	first := len(w.b) == w.start && (n.Kind == api.NObject || n.Kind == api.NLambda)
	if first || holds(n) < weakest || w.noIn && n.Kind == api.NBinary && n.Text == "in" {
		w.bracketed(n)
		return
	}
	switch n.Kind {
	case api.NComma, api.NAssign, api.NOr, api.NAnd, api.NBinary:
		w.infix(n)
	case api.NCond:
		w.expression(part(n, 0), cond+1)
		w.within("?", ":", func() { w.expression(part(n, 1), assign) })
		w.expression(part(n, 2), assign)
	case api.NUnary:
		w.operator(n, isUnary)
		w.expression(part(n, 0), unary)
	case api.NPost:
		w.expression(part(n, 0), call)
		w.operator(n, counts)
	case api.NCall, api.NDot, api.NIndex:
		w.member(n, min(max(weakest, call), member))
	case api.NNew:
		w.put("new")
		w.expression(part(n, 0), member)
		w.list("(", ")", n.Kids[1:])
	default:
		w.primary(n)
	}
}

func (w *writer) bracketed(n *api.Node) {
	w.start = nowhereYet // also where nothing more is written
	w.within("(", ")", func() { w.expression(n, comma) })
}

// within: between these in is an operator.
func (w *writer) within(open, end string, f func()) {
	outer := w.noIn
	w.noIn = false
	w.put(open)
	f()
	w.put(end)
	w.noIn = outer
}

// operator: n's own, which must be such a one.
func (w *writer) operator(n *api.Node, such func(string) bool) {
	if !such(n.Text) {
		panic(api.ErrSyntax)
	}
	w.put(n.Text)
}

func (w *writer) infix(n *api.Node) {
	left, right := part(n, 0), part(n, 1)
	switch n.Kind {
	case api.NComma:
		w.expression(left, comma)
		w.put(",")
		w.expression(right, assign)
	case api.NAssign:
		w.expression(left, call)
		w.operator(n, assigns)
		w.expression(right, assign)
	default:
		word := operator(n)
		if ofWord(word[0]) {
			word = " " + word // a pattern ahead of it has no end but its flags
		}
		w.expression(left, holds(n))
		w.put(word)
		w.expression(right, holds(n)+1)
	}
}

// member: or a call; weakest: of what it is a member of: behind new no call may stand there.
func (w *writer) member(n *api.Node, weakest int) {
	object := part(n, 0)
	w.expression(object, weakest)
	switch n.Kind {
	case api.NCall:
		w.list("(", ")", n.Kids[1:])
	case api.NDot:
		if object.Kind == api.NNumber {
			w.put(" ") // or the point would be the number's
		}
		w.put(".")
		w.name(n.Text)
	case api.NIndex:
		w.within("[", "]", func() { w.expression(part(n, 1), comma) })
	}
}

// list: arguments, or elements, of which some are left out.
func (w *writer) list(open, end string, l []*api.Node) {
	w.within(open, end, func() {
		for i, k := range l {
			if i > 0 {
				w.put(",")
			}
			if k.Kind != api.NNone {
				w.expression(k, assign)
			} else if i == len(l)-1 {
				w.put(",") // the last one alone would count for nothing
			}
		}
	})
}

func (w *writer) primary(n *api.Node) {
	switch n.Kind {
	case api.NThis:
		w.put("this")
	case api.NNull:
		w.put("null")
	case api.NTrue:
		w.put("true")
	case api.NFalse:
		w.put("false")
	case api.NName:
		w.name(n.Text)
	case api.NNumber:
		w.number(n.Num)
	case api.NString:
		w.text(n.Text)
	case api.NRegex:
		w.pattern(n.Text, n.Flags)
	case api.NArray:
		w.list("[", "]", n.Kids)
	case api.NObject:
		w.within("{", "}", func() { w.properties(n) })
	case api.NLambda:
		w.put("function")
		w.optionalName(n.Text)
		w.rest(n)
	default:
		panic(api.ErrSyntax)
	}
}

func (w *writer) properties(n *api.Node) {
	for i := range n.Kids {
		if i > 0 {
			w.put(",")
		}
		w.property(part(n, i))
	}
}

func (w *writer) property(n *api.Node) {
	switch n.Kind {
	case api.NProp:
		w.key(n.Text)
		w.put(":")
		w.expression(part(n, 0), assign)
	case api.NGet:
		w.put("get")
		w.key(n.Text)
		w.rest(partOf(api.NLambda, n, 0))
	case api.NSet:
		w.put("set")
		w.key(n.Text)
		w.rest(partOf(api.NLambda, n, 0))
	default:
		panic(api.ErrSyntax)
	}
}

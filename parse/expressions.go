package parse

import (
	"ecmacore/api"
	"ecmacore/num"
	"ecmacore/regex"
)

// expression: in: whether that is an operator in it, but within brackets, where it is always.
func (r *reader) expression(in bool) *api.Node {
	at := r.tok.From
	left := r.assignment(in)
	for r.is(",") {
		r.pass(here)
		left = &api.Node{Kind: api.NComma, At: at, Kids: []*api.Node{left, r.assignment(in)}}
	}
	return left
}

func (r *reader) assignment(in bool) *api.Node {
	r.deeper()
	n := r.node(api.NAssign)
	left := r.conditional(in)
	if assigns(r.word()) {
		target(left, n.At)
		n.Text = r.tok.Text
		r.pass(here)
		n.Kids = []*api.Node{left, r.assignment(in)}
		left = n
	}
	r.deep--
	return left
}

func (r *reader) conditional(in bool) *api.Node {
	n := r.node(api.NCond)
	test := r.binary(1, in)
	if !r.is("?") {
		return test
	}
	r.pass(here)
	then := r.assignment(true)
	r.expect(":", here)
	n.Kids = []*api.Node{test, then, r.assignment(in)}
	return n
}

// binary: operators that are no weaker than that.
func (r *reader) binary(weakest int, in bool) *api.Node {
	at := r.tok.From
	left := r.unary()
	for {
		word := r.word()
		s := strength(word)
		if s < weakest || word == "in" && !in {
			return left
		}
		n := &api.Node{Kind: kindBy(word), At: at}
		if n.Kind == api.NBinary {
			n.Text = r.tok.Text
		}
		r.pass(here)
		n.Kids = []*api.Node{left, r.binary(s+1, in)}
		left = n
	}
}

func (r *reader) unary() *api.Node {
	if !isUnary(r.word()) {
		return r.postfix()
	}
	r.deeper()
	n := r.node(api.NUnary)
	n.Text = r.tok.Text
	r.pass(here)
	at := r.tok.From
	operand := r.unary()
	if counts(n.Text) {
		target(operand, at)
	}
	if n.Text == "delete" && operand.Kind == api.NName {
		wrongAt(api.ErrEarly, at)
	}
	n.Kids = []*api.Node{operand}
	r.deep--
	return n
}

func (r *reader) postfix() *api.Node {
	n := r.node(api.NPost)
	operand := r.members(true)
	if !counts(r.word()) || r.tok.Line {
		return operand
	}
	target(operand, n.At)
	n.Text = r.tok.Text
	r.pass(nowhere)
	n.Kids = []*api.Node{operand}
	return n
}

// members: what is called, or a member of something: calls: whether calls belong to it, as they do but behind new.
func (r *reader) members(calls bool) *api.Node {
	at := r.tok.From
	left := r.primary()
	for {
		n := &api.Node{At: at}
		switch {
		case r.is("."):
			n.Kind = api.NDot
			r.pass(nowhere)
			n.Kids = []*api.Node{left}
			n.Text = r.memberName()
		case r.is("["):
			n.Kind = api.NIndex
			r.pass(here)
			n.Kids = []*api.Node{left, r.expression(true)}
			r.expect("]", nowhere)
		case r.is("(") && calls:
			n.Kind = api.NCall
			n.Kids = r.arguments(left)
		default:
			return left
		}
		left = n
	}
}

// memberName: keywords are names here.
func (r *reader) memberName() string {
	if r.tok.Kind != api.TName && r.tok.Kind != api.TKeyword {
		r.wrong(api.ErrSyntax)
	}
	name := r.tok.Text
	r.pass(nowhere)
	return name
}

// arguments: of a call, behind what is called.
func (r *reader) arguments(called *api.Node) []*api.Node {
	l := []*api.Node{called}
	r.pass(here)
	if !r.is(")") {
		l = append(l, r.assignment(true))
		for r.is(",") {
			r.pass(here)
			l = append(l, r.assignment(true))
		}
	}
	r.expect(")", nowhere)
	return l
}

func (r *reader) primary() *api.Node {
	n := r.node(api.NNone)
	switch r.tok.Kind {
	case api.TName:
		n.Kind, n.Text = api.NName, r.tok.Text
	case api.TNumber:
		n.Kind, n.Num = api.NNumber, r.tok.Num
	case api.TString:
		n.Kind, n.Text = api.NString, r.tok.Text
	case api.TRegex:
		n.Kind, n.Text, n.Flags = api.NRegex, r.tok.Text, r.tok.Flags
		if _, err := regex.Compile(n.Text, n.Flags); err != nil {
			r.wrong(api.ErrEarly)
		}
	default:
		return r.byWord()
	}
	r.pass(nowhere)
	return n
}

// byWord: what begins with a sign or a keyword.
func (r *reader) byWord() *api.Node {
	switch r.word() {
	case "this":
		return r.single(api.NThis)
	case "null":
		return r.single(api.NNull)
	case "true":
		return r.single(api.NTrue)
	case "false":
		return r.single(api.NFalse)
	case "function":
		return r.lambda()
	case "new":
		return r.construction()
	case "[":
		return r.array()
	case "{":
		return r.object()
	case "(":
		return r.bracketed(nowhere)
	}
	r.wrong(api.ErrSyntax)
	return nil
}

func (r *reader) single(kind int) *api.Node {
	n := r.node(kind)
	r.pass(nowhere)
	return n
}

func (r *reader) construction() *api.Node {
	r.deeper()
	n := r.node(api.NNew)
	r.pass(here)
	called := r.members(false)
	n.Kids = []*api.Node{called}
	if r.is("(") {
		n.Kids = r.arguments(called)
	}
	r.deep--
	return n
}

func (r *reader) array() *api.Node {
	n := r.node(api.NArray)
	r.pass(here)
	for !r.is("]") {
		if r.is(",") {
			n.Kids = append(n.Kids, none())
			r.pass(here)
			continue
		}
		n.Kids = append(n.Kids, r.assignment(true))
		if !r.is("]") {
			r.expect(",", here)
		}
	}
	r.pass(nowhere)
	return n
}

func (r *reader) object() *api.Node {
	n := r.node(api.NObject)
	r.pass(nowhere)
	for k := make(keys); !r.is("}"); {
		n.Kids = append(n.Kids, r.property(k))
		if !r.is("}") {
			r.expect(",", nowhere)
		}
	}
	r.pass(nowhere)
	return n
}

func (r *reader) property(k keys) *api.Node {
	n := r.node(api.NProp)
	kind, as, count := accessorBy(r.tok)
	n.Text = r.key()
	if kind == api.NProp || r.is(":") {
		k.add(n.Text, asValue, n.At)
		r.expect(":", here)
		n.Kids = []*api.Node{r.assignment(true)}
		return n
	}
	n.Kind, n.Text = kind, r.key()
	k.add(n.Text, as, n.At)
	n.Kids = []*api.Node{r.accessor(count)}
	return n
}

// accessorBy: what a property is that begins with that token, if no : stands behind it: its kind, what its key is then, and how many parameters it must have.
func accessorBy(t api.Token) (int, int, int) {
	if t.Kind == api.TName && t.Plain {
		switch t.Text {
		case "get":
			return api.NGet, asGet, 0
		case "set":
			return api.NSet, asSet, 1
		}
	}
	return api.NProp, asValue, 0
}

func (r *reader) key() string {
	key := r.tok.Text
	switch r.tok.Kind {
	case api.TName, api.TKeyword, api.TString:
	case api.TNumber:
		key = num.Text(r.tok.Num)
	default:
		r.wrong(api.ErrSyntax)
	}
	r.pass(nowhere)
	return key
}

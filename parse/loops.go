package parse

import "ecmacore/api"

// body: of a loop.
func (r *reader) body() *api.Node {
	r.loops++
	n := r.statement()
	r.loops--
	return n
}

func (r *reader) doLoop() *api.Node {
	n := r.node(api.NDo)
	r.pass(here)
	body := r.body()
	r.expect("while", nowhere)
	n.Kids = []*api.Node{body, r.bracketed(here)}
	if r.is(";") {
		r.pass(here)
	}
	return n
}

func (r *reader) whileLoop() *api.Node {
	n := r.node(api.NWhile)
	r.pass(nowhere)
	test := r.bracketed(here)
	n.Kids = []*api.Node{test, r.body()}
	return n
}

func (r *reader) forLoop() *api.Node {
	n := r.node(api.NFor)
	r.pass(nowhere)
	r.expect("(", here)
	at := r.tok.From
	first := r.first()
	if r.is("in") {
		r.forIn(n, first, at)
	} else {
		r.forParts(n, first)
	}
	return n
}

// first: the first part of a for.
func (r *reader) first() *api.Node {
	switch {
	case r.is("var"):
		return r.variables(false)
	case r.is(";"):
		return none()
	}
	return r.expression(false)
}

// forIn: in stands here; the key is assigned to what was read ahead of it, from that byte on.
func (r *reader) forIn(n, to *api.Node, at int) {
	if to.Kind == api.NVar && len(to.Kids) > 1 || to.Kind != api.NVar && !isPlace(to) {
		r.wrong(api.ErrSyntax)
	}
	if to.Kind != api.NVar {
		target(to, at)
	}
	r.pass(here)
	object := r.expression(true)
	r.expect(")", here)
	n.Kind = api.NForIn
	n.Kids = []*api.Node{to, object, r.body()}
}

func (r *reader) forParts(n, first *api.Node) {
	r.expect(";", here)
	test := r.unless(";")
	r.expect(";", here)
	next := r.unless(")")
	r.expect(")", here)
	n.Kids = []*api.Node{first, test, next, r.body()}
}

// unless: an expression, but where that word stands.
func (r *reader) unless(word string) *api.Node {
	if r.is(word) {
		return none()
	}
	return r.expression(true)
}

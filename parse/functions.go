package parse

import "ecmacore/api"

// anyNumber: of parameters.
const anyNumber = -1

func (r *reader) declaration() *api.Node {
	n := r.node(api.NFunc)
	r.pass(nowhere)
	n.Text = r.bound(nowhere)
	r.rest(n, anyNumber, here)
	return n
}

func (r *reader) lambda() *api.Node {
	n := r.node(api.NLambda)
	r.pass(nowhere)
	if !r.is("(") {
		n.Text = r.bound(nowhere)
	}
	r.rest(n, anyNumber, nowhere)
	return n
}

// accessor: the function of a get or set, which must have so many parameters.
func (r *reader) accessor(count int) *api.Node {
	n := r.node(api.NLambda)
	r.rest(n, count, nowhere)
	return n
}

// rest: of a function: its parameters, of which there must be so many, and its body; pattern: where one may begin behind it.
func (r *reader) rest(n *api.Node, count, pattern int) {
	r.deeper()
	outer := r.scope
	r.scope = scope{function: true}
	params := r.parameters()
	if count != anyNumber && len(params.Kids) != count {
		wrongAt(api.ErrSyntax, params.At)
	}
	body := r.functionBody(pattern)
	n.Kids = []*api.Node{params, body}
	r.scope = outer
	r.deep--
}

func (r *reader) functionBody(pattern int) *api.Node {
	n := r.node(api.NBlock)
	r.expect("{", here)
	for !r.is("}") {
		n.Kids = append(n.Kids, r.own())
	}
	r.pass(pattern)
	return n
}

func (r *reader) parameters() *api.Node {
	n := r.node(api.NParams)
	r.expect("(", nowhere)
	if !r.is(")") {
		r.names(n)
	}
	r.expect(")", nowhere)
	return n
}

// names: of parameters, of which no two may be the same.
func (r *reader) names(params *api.Node) {
	places := make(map[string]int)
	for {
		n := r.node(api.NName)
		if _, was := places[r.tok.Text]; was && r.tok.Kind == api.TName {
			r.wrong(api.ErrEarly)
		}
		n.Text = r.bound(nowhere)
		places[n.Text] = n.At
		params.Kids = append(params.Kids, n)
		if !r.is(",") {
			return
		}
		r.pass(nowhere)
	}
}

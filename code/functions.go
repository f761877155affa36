package code

import (
	"iter"

	"ecmacore/api"
	"ecmacore/heap"
)

// own: the nodes of a body, from the left, but for what lies in inner functions.
func own(body *api.Node) iter.Seq[*api.Node] {
	return func(yield func(*api.Node) bool) { visitOwn(body.Kids, yield) }
}

func visitOwn(l []*api.Node, yield func(*api.Node) bool) bool {
	for _, n := range l {
		if !yield(n) {
			return false
		}
		if n.Kind != api.NFunc && n.Kind != api.NLambda && !visitOwn(n.Kids, yield) {
			return false
		}
	}
	return true
}

// function: its code is made; where that stands.
func (c *compiler) function(n *api.Node) int {
	inner := newCompiler(newScope(c.scope))
	inner.bind(n)
	inner.all(n.Kids[1])
	c.code.Functions = append(c.code.Functions, inner.code)
	return len(c.code.Functions) - 1
}

// bind: all names of a function, parameters first: each becomes a variable, before anything is compiled that may speak of it.
func (c *compiler) bind(n *api.Node) {
	params, body := n.Kids[0].Kids, n.Kids[1]
	for _, p := range params {
		c.scope.add(p.Text)
	}
	speaks := false
	for k := range own(body) {
		switch k.Kind {
		case api.NFunc, api.NDecl:
			c.scope.add(k.Text)
		case api.NName:
			speaks = speaks || k.Text == "arguments"
		}
	}
	if n.Kind == api.NLambda && n.Text != "" && !c.scope.has(n.Text) {
		c.code.Self = c.scope.add(n.Text)
		c.scope.fixed = n.Text
	}
	if speaks {
		c.code.Arguments = c.scope.add("arguments")
	}
	c.code.Params, c.code.Variables = len(params), len(c.scope.names)
}

// hoist: functions that are declared are made ahead of all else.
func (c *compiler) hoist(body *api.Node) {
	for n := range own(body) {
		if n.Kind != api.NFunc {
			continue
		}
		h := Hoisted{Function: c.function(n), Name: heap.KeyOf(n.Text), Variable: None}
		if c.scope != nil {
			h.Variable = c.scope.names[n.Text]
		}
		c.code.Hoisted = append(c.code.Hoisted, h)
	}
}

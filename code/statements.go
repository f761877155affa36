package code

import "ecmacore/api"

func (c *compiler) statements(l []*api.Node) {
	for _, n := range l {
		c.statement(n)
	}
}

func (c *compiler) statement(n *api.Node) {
	switch n.Kind {
	case api.NBlock, api.NVar:
		c.statements(n.Kids)
	case api.NDecl:
		c.variable(n)
	case api.NExpr:
		c.effect(n.Kids[0])
	case api.NIf:
		c.condition(n)
	case api.NDo, api.NWhile, api.NFor, api.NForIn, api.NSwitch, api.NLabel:
		c.labelled(n)
	case api.NContinue:
		c.continueWith(n.Text)
	case api.NBreak:
		c.breakFrom(n.Text)
	case api.NReturn:
		c.valueOr(n.Kids[0])
		c.returns()
	case api.NThrow:
		c.expression(n.Kids[0])
		c.add(Throw, 0)
	case api.NTry:
		c.try(n)
	}
}

// valueOr: an expression, or none, which is undefined.
func (c *compiler) valueOr(n *api.Node) {
	if isNone(n) {
		c.add(Nothing, 0)
	} else {
		c.expression(n)
	}
}

// effect: an expression, or none, of which the value does not matter.
func (c *compiler) effect(n *api.Node) {
	if !isNone(n) {
		c.expression(n)
		c.add(Pop, 0)
	}
}

func (c *compiler) variable(n *api.Node) {
	if !isNone(n.Kids[0]) {
		c.expression(n.Kids[0])
		c.writeName(n.Text)
		c.add(Pop, 0)
	}
}

func (c *compiler) condition(n *api.Node) {
	c.expression(n.Kids[0])
	other := c.add(JumpUnless, 0)
	c.statement(n.Kids[1])
	if isNone(n.Kids[2]) {
		c.land(other)
		return
	}
	end := c.add(Jump, 0)
	c.land(other)
	c.statement(n.Kids[2])
	c.land(end)
}

// labelled: a statement that a jump can mean: labels in front of a loop or a switch are its own.
func (c *compiler) labelled(n *api.Node) {
	t := &region{}
	for ; n.Kind == api.NLabel; n = n.Kids[0] {
		t.labels = append(t.labels, n.Text)
	}
	switch n.Kind {
	case api.NDo:
		c.loop(t, func() { c.doLoop(n, t) })
	case api.NWhile:
		c.loop(t, func() { c.whileLoop(n, t) })
	case api.NFor:
		c.loop(t, func() { c.forLoop(n, t) })
	case api.NForIn:
		c.forIn(n, t)
	case api.NSwitch:
		t.nameless = true
		c.within(t, func() { c.choice(n) })
	default:
		c.within(t, func() { c.statement(n) })
	}
}

func (c *compiler) loop(t *region, inner func()) {
	t.loop, t.nameless = true, true
	c.within(t, inner)
}

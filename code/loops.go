package code

import "ecmacore/api"

// doLoop: in all loops a step stands ahead of the body (of a for in: of its key).
func (c *compiler) doLoop(n *api.Node, t *region) {
	from := c.here()
	c.round(n.Kids[0], t)
	c.expression(n.Kids[1])
	c.add(JumpIf, from)
}

func (c *compiler) whileLoop(n *api.Node, t *region) {
	from := c.here()
	c.expression(n.Kids[0])
	out := c.add(JumpUnless, 0)
	c.round(n.Kids[1], t)
	c.add(Jump, from)
	c.land(out)
}

func (c *compiler) forLoop(n *api.Node, t *region) {
	first, test, next, body := n.Kids[0], n.Kids[1], n.Kids[2], n.Kids[3]
	if first.Kind == api.NVar {
		c.statement(first)
	} else {
		c.effect(first)
	}
	from := c.here()
	if !isNone(test) {
		c.expression(test)
		t.breaks = append(t.breaks, c.add(JumpUnless, 0))
	}
	c.round(body, t)
	c.effect(next)
	c.add(Jump, from)
}

// round: a step, the body, and then what continue goes on with.
func (c *compiler) round(body *api.Node, t *region) {
	c.add(Step, 0)
	c.statement(body)
	c.land(t.continues...)
}

// forIn: break lands ahead of where the keys go.
func (c *compiler) forIn(n *api.Node, t *region) {
	to, object, body := n.Kids[0], n.Kids[1], n.Kids[2]
	if to.Kind == api.NVar {
		c.statement(to)
		to = &api.Node{Kind: api.NName, Text: to.Kids[0].Text}
	}
	c.expression(object)
	c.add(StartKeys, 0)
	c.within(&region{kind: walking}, func() {
		c.loop(t, func() { c.keyRounds(to, body, t) })
	})
	c.add(EndKeys, 0)
}

func (c *compiler) keyRounds(to, body *api.Node, t *region) {
	from := c.here()
	t.breaks = append(t.breaks, c.add(NextKey, 0))
	c.add(Step, 0)
	c.place(to)
	c.add(PushKey, 0)
	c.write(to)
	c.add(Pop, 0)
	c.statement(body)
	c.land(t.continues...)
	c.add(Jump, from)
}

// choice: the value stays on the stack until a case is found, so that no jump leaves it there.
func (c *compiler) choice(n *api.Node) {
	cases := n.Kids[1:]
	entries := make([]int, len(cases))
	other := -1
	c.expression(n.Kids[0])
	for i, k := range cases {
		if isNone(k.Kids[0]) {
			other = i
			continue
		}
		c.expression(k.Kids[0])
		entries[i] = c.add(JumpCase, 0)
	}
	c.add(Pop, 0)
	none := c.add(Jump, 0)
	for i, k := range cases {
		if i == other {
			c.land(none)
		} else {
			c.land(entries[i])
		}
		c.statements(k.Kids[1:])
	}
	if other < 0 {
		c.land(none)
	}
}

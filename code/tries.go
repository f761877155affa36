package code

import (
	"ecmacore/api"
	"ecmacore/heap"
)

func (c *compiler) try(n *api.Node) {
	block, catch, last := n.Kids[0], n.Kids[1], n.Kids[2]
	if isNone(last) {
		c.caught(block, catch)
		return
	}
	c.finished(last, func() {
		if isNone(catch) {
			c.statement(block)
		} else {
			c.caught(block, catch)
		}
	})
}

func (c *compiler) caught(block, catch *api.Node) {
	from := c.here()
	c.statement(block)
	end := c.add(Jump, 0)
	c.guard(from, end)
	c.add(EnterCatch, 0)
	outer := c.scope
	c.scope = newScope(outer)
	c.scope.add(catch.Text)
	c.within(&region{kind: catching}, func() { c.statement(catch.Kids[0]) })
	c.scope = outer
	c.add(LeaveCatch, 0)
	c.land(end)
}

// finished: the block of a finally stands there once: jumps, what is thrown and the normal end come to it with an address each, from which it is gone on.
func (c *compiler) finished(last *api.Node, inner func()) {
	r := &region{kind: guarded}
	from := c.here()
	c.within(r, inner)
	to := c.here()
	c.visit(r)
	end := c.add(Jump, 0)
	c.guard(from, to)
	c.push(heap.Number(Nowhere))
	c.land(r.visits...)
	c.within(&region{kind: finishing}, func() { c.statement(last) })
	c.add(Resume, 0)
	c.land(end)
}

// guard: what is thrown between these is caught here. Between statements nothing lies on the stack but what finally blocks need.
func (c *compiler) guard(from, to int) {
	c.code.Guards = append(c.code.Guards, Guard{
		From: from, To: to, Target: c.here(),
		Values: finishingValues * c.inside(finishing), Catches: c.inside(catching), ForIns: c.inside(walking),
	})
}

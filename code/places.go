package code

import (
	"strings"

	"ecmacore/api"
	"ecmacore/heap"
)

// place: what is to be read and written: of a name nothing lies on the stack, of a Dot its object, of an Index its object and key.
func (c *compiler) place(n *api.Node) {
	c.each(n.Kids)
	switch n.Kind {
	case api.NDot:
		c.add(Solid, 0)
	case api.NIndex:
		c.add(Place, 0)
	}
}

// read takes the place.
func (c *compiler) read(n *api.Node) {
	switch n.Kind {
	case api.NDot:
		c.withDot(ReadDot, n.Text)
	case api.NIndex:
		c.add(ReadIndex, 0)
	default:
		c.readName(ReadName, n.Text)
	}
}

// placeAndValue: the place stays beneath its value, to be written.
func (c *compiler) placeAndValue(n *api.Node) {
	c.place(n)
	switch n.Kind {
	case api.NDot:
		c.add(Copy, 0)
	case api.NIndex:
		c.add(CopyTwo, 0)
	}
	c.read(n)
}

// write takes the place and the value above it, which it leaves.
func (c *compiler) write(n *api.Node) {
	switch n.Kind {
	case api.NDot:
		c.withDot(WriteDot, n.Text)
	case api.NIndex:
		c.add(WriteIndex, 0)
	default:
		c.writeName(n.Text)
	}
}

func (c *compiler) assign(n *api.Node) {
	to, value := n.Kids[0], n.Kids[1]
	if n.Text == "=" {
		c.place(to)
		c.expression(value)
	} else {
		c.placeAndValue(to)
		c.expression(value)
		c.add(binaryOp(strings.TrimSuffix(n.Text, "=")), 0)
	}
	c.write(to)
}

// count: up or down by one; the new number is given.
func (c *compiler) count(n *api.Node) {
	c.placeAndValue(n.Kids[0])
	c.add(ToNumber, 0)
	c.add(countOp(n.Text), 0)
	c.write(n.Kids[0])
}

// countBehind: likewise, but the old number, which waits beneath the place, is given.
func (c *compiler) countBehind(n *api.Node) {
	c.placeAndValue(n.Kids[0])
	c.add(ToNumber, 0)
	c.add(Copy, 0)
	c.add(Under, 1+len(n.Kids[0].Kids))
	c.add(countOp(n.Text), 0)
	c.write(n.Kids[0])
	c.add(Pop, 0)
}

func (c *compiler) remove(n *api.Node) {
	switch n.Kind {
	case api.NDot:
		c.place(n)
		c.withKey(DeleteDot, n.Text)
	case api.NIndex:
		c.place(n)
		c.add(DeleteIndex, 0)
	default:
		c.effect(n)
		c.push(heap.Boolean(true))
	}
}

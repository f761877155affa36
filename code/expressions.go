package code

import (
	"ecmacore/api"
	"ecmacore/heap"
	"ecmacore/regex"
)

func (c *compiler) expression(n *api.Node) {
	switch n.Kind {
	case api.NThis:
		c.add(This, 0)
	case api.NNull:
		c.push(heap.Null())
	case api.NTrue, api.NFalse:
		c.push(heap.Boolean(n.Kind == api.NTrue))
	case api.NNumber:
		c.push(heap.Number(n.Num))
	case api.NString:
		c.push(heap.String(n.Text))
	case api.NRegex:
		c.pattern(n)
	case api.NArray:
		c.array(n)
	case api.NObject:
		c.object(n)
	case api.NLambda:
		c.add(MakeFunction, c.function(n))
	case api.NName, api.NDot, api.NIndex:
		c.each(n.Kids)
		c.read(n)
	case api.NCall:
		c.call(n)
	case api.NNew:
		c.each(n.Kids)
		c.add(New, len(n.Kids)-1)
	case api.NPost:
		c.countBehind(n)
	case api.NUnary:
		c.unary(n)
	case api.NBinary:
		c.each(n.Kids)
		c.add(binaryOp(n.Text), 0)
	case api.NAnd, api.NOr:
		c.either(n)
	case api.NCond:
		c.pick(n)
	case api.NAssign:
		c.assign(n)
	case api.NComma:
		c.effect(n.Kids[0])
		c.expression(n.Kids[1])
	}
}

// each: expressions, from the left.
func (c *compiler) each(l []*api.Node) {
	for _, n := range l {
		c.expression(n)
	}
}

// pattern: what parse let pass compiles.
func (c *compiler) pattern(n *api.Node) {
	compiled, _ := regex.Compile(n.Text, n.Flags)
	c.code.Patterns = append(c.code.Patterns, Pattern{Source: heap.String(n.Text), Flags: n.Flags, Compiled: compiled})
	c.add(MakeRegex, len(c.code.Patterns)-1)
}

func (c *compiler) array(n *api.Node) {
	c.add(MakeArray, 0)
	for i, k := range n.Kids {
		if isNone(k) {
			c.add(SkipElement, i)
			continue
		}
		c.expression(k)
		c.add(SetElement, i)
	}
}

func (c *compiler) object(n *api.Node) {
	c.add(MakeObject, 0)
	for _, k := range n.Kids {
		c.expression(k.Kids[0])
		c.withKey(setOp(k.Kind), k.Text)
	}
}

// call: what it is called on lies beneath what is called.
func (c *compiler) call(n *api.Node) {
	called := n.Kids[0]
	switch called.Kind {
	case api.NDot:
		c.each(called.Kids)
		c.withDot(MethodDot, called.Text)
	case api.NIndex:
		c.each(called.Kids)
		c.add(MethodIndex, 0)
	default:
		c.add(Nothing, 0)
		c.expression(called)
	}
	c.each(n.Kids[1:])
	c.add(Call, len(n.Kids)-1)
}

func (c *compiler) either(n *api.Node) {
	op := JumpAnd
	if n.Kind == api.NOr {
		op = JumpOr
	}
	c.expression(n.Kids[0])
	end := c.add(op, 0)
	c.expression(n.Kids[1])
	c.land(end)
}

func (c *compiler) pick(n *api.Node) {
	c.expression(n.Kids[0])
	other := c.add(JumpUnless, 0)
	c.expression(n.Kids[1])
	end := c.add(Jump, 0)
	c.land(other)
	c.expression(n.Kids[2])
	c.land(end)
}

func (c *compiler) unary(n *api.Node) {
	operand := n.Kids[0]
	switch {
	case n.Text == "++" || n.Text == "--":
		c.count(n)
	case n.Text == "delete":
		c.remove(operand)
	case n.Text == "void":
		c.effect(operand)
		c.add(Nothing, 0)
	case n.Text == "typeof" && operand.Kind == api.NName:
		c.readName(AskName, operand.Text)
		c.add(TypeOf, 0)
	default:
		c.expression(operand)
		c.add(unaryOp(n.Text), 0)
	}
}

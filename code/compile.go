package code

import (
	"ecmacore/api"
	"ecmacore/heap"
)

// compiler makes code, of a tree that package parse gave.
type compiler struct {
	code    *Code
	targets []*target // what a jump can leave or go on with, from without inwards
}

// Compile: the code of a program's tree; nil, if it has what is not built yet: functions, try, for in.
func Compile(program *api.Node) *Code {
	if !built(program) {
		return nil
	}
	c := &compiler{code: &Code{}}
	c.declare(program)
	c.statements(program.Kids)
	c.add(End, 0)
	return c.code
}

func built(n *api.Node) bool {
	switch n.Kind {
	case api.NFunc, api.NLambda, api.NTry, api.NForIn, api.NGet, api.NSet:
		return false
	}
	for _, k := range n.Kids {
		if !built(k) {
			return false
		}
	}
	return true
}

// declare gathers the names of variables.
func (c *compiler) declare(n *api.Node) {
	if n.Kind == api.NDecl {
		c.code.Declared = append(c.code.Declared, heap.KeyOf(n.Text))
	}
	for _, k := range n.Kids {
		c.declare(k)
	}
}

// add an instruction; where it stands.
func (c *compiler) add(op Op, arg int) int {
	c.code.Instrs = append(c.code.Instrs, Instr{Op: op, Arg: arg})
	return len(c.code.Instrs) - 1
}

// here: where the next instruction will stand.
func (c *compiler) here() int { return len(c.code.Instrs) }

// land: these jumps, whose target was not known yet, go to the next instruction.
func (c *compiler) land(jumps ...int) {
	for _, j := range jumps {
		c.code.Instrs[j].Arg = c.here()
	}
}

func (c *compiler) push(v heap.Value) {
	c.code.Values = append(c.code.Values, v)
	c.add(Push, len(c.code.Values)-1)
}

func (c *compiler) withKey(op Op, text string) {
	c.code.Keys = append(c.code.Keys, heap.KeyOf(text))
	c.add(op, len(c.code.Keys)-1)
}

// isNone: whether nothing stands there.
func isNone(n *api.Node) bool { return n.Kind == api.NNone }

package code

import (
	"ecmacore/api"
	"ecmacore/heap"
)

// compiler makes the code of a program or of one function, of a tree that package parse gave.
type compiler struct {
	code    *Code
	scope   *scope    // the innermost; nil: names are the global object's
	regions []*region // around what is being compiled, from without inwards
}

// Compile: the code of a program's tree.
func Compile(program *api.Node) *Code {
	c := newCompiler(nil)
	for n := range own(program) {
		if n.Kind == api.NDecl {
			c.code.Declared = append(c.code.Declared, heap.KeyOf(n.Text))
		}
	}
	c.all(program)
	return c.code
}

func newCompiler(s *scope) *compiler {
	return &compiler{code: &Code{Self: None, Arguments: None}, scope: s}
}

// all: of a program or a function's body, when its names are known.
func (c *compiler) all(body *api.Node) {
	c.hoist(body)
	c.statements(body.Kids)
	c.add(End, 0)
}

// add an instruction; where it stands.
func (c *compiler) add(op Op, arg int) int {
	c.code.Instrs = append(c.code.Instrs, Instr{Op: op, Arg: arg})
	return c.here() - 1
}

// here: where the next instruction will stand.
func (c *compiler) here() int { return len(c.code.Instrs) }

// land: these jumps, whose target was not known yet, go to the next instruction.
func (c *compiler) land(jumps ...int) {
	for _, j := range jumps {
		c.code.Instrs[j].Arg = c.here()
	}
}

func (c *compiler) push(v heap.Value) {
	c.code.Values = append(c.code.Values, v)
	c.add(Push, len(c.code.Values)-1)
}

func (c *compiler) withKey(op Op, text string) {
	c.code.Keys = append(c.code.Keys, heap.KeyOf(text))
	c.add(op, len(c.code.Keys)-1)
}

// withDot: each has one of its own, so that it remembers nothing of what others met.
func (c *compiler) withDot(op Op, name string) {
	c.code.Dots = append(c.code.Dots, heap.Dot{Name: name, Writes: op == WriteDot})
	c.add(op, len(c.code.Dots)-1)
}

// isNone: whether nothing stands there.
func isNone(n *api.Node) bool { return n.Kind == api.NNone }

package regex

// The instructions. Those up to opInner are held against the text.
const (
	opUnit  = iota // x: the unit; with the flag i the upper one
	opPoint        // any unit that ends no line
	opSet          // x: the class
	opBack         // x: the group
	opBegin        // ^
	opEnd          // $
	opEdge         // \b
	opInner        // \B

	opOpen  // x: the group
	opClose // x: the group
	opFork  // an alternative begins; to: the next one
	opLast  // the last of several alternatives begins
	opJump  // to
	opLoop  // x: the loop
	opTime  // x: the loop, of which a time begins
	opAgain // x: the loop, of which a time ended
	opLook  // x: the first of two registers
	opFound // x: of the opLook whose pattern was matched
	opNot   // x: the register; to: behind it
	opWrong // x: of the opNot whose pattern was matched
)

// instr is an instruction.
type instr struct{ op, x, to int }

// loop: a number of times.
type loop struct {
	least, most int
	lazy        bool
	first, last int // the groups within: from behind the first to the last
	count       int // the register that counts the times; in the next one stands where a time began
	begin, end  int // the instructions that begin a time, and behind the loop
}

// add puts the code of a node behind what is there.
func (p *Pattern) add(n *node) {
	switch n.kind {
	case kindLeaf:
		p.addLeaf(n.leaf)
	case kindRow:
		for _, k := range n.kids {
			p.add(k)
		}
	case kindEither:
		p.addEither(n.kids)
	case kindGroup:
		p.put(opOpen, n.group)
		p.add(n.kids[0])
		p.put(opClose, n.group)
	case kindLoop:
		p.addLoop(n)
	case kindLook:
		r := p.registers(2)
		p.put(opLook, r)
		p.add(n.kids[0])
		p.put(opFound, r)
	case kindNot:
		r := p.registers(1)
		at := p.put(opNot, r)
		p.add(n.kids[0])
		p.put(opWrong, r)
		p.code[at].to = len(p.code)
	}
}

// addLeaf works out beforehand what a unit of the pattern counts as.
func (p *Pattern) addLeaf(in instr) {
	if in.op == opUnit && p.alike {
		in.x = int(upper(uint16(in.x)))
	}
	p.code = append(p.code, in)
}

func (p *Pattern) addEither(rows []*node) {
	last := len(rows) - 1
	var jumps []int
	for _, row := range rows[:last] {
		fork := p.put(opFork, 0)
		p.add(row)
		jumps = append(jumps, p.put(opJump, 0))
		p.code[fork].to = len(p.code)
	}
	p.put(opLast, 0)
	p.add(rows[last])
	for _, j := range jumps {
		p.code[j].to = len(p.code)
	}
}

func (p *Pattern) addLoop(n *node) {
	k := len(p.loops)
	n.loop.count = p.registers(2)
	p.loops = append(p.loops, n.loop)
	p.put(opLoop, k)
	p.loops[k].begin = p.put(opTime, k)
	p.add(n.kids[0])
	p.put(opAgain, k)
	p.loops[k].end = len(p.code)
}

// put: where the instruction stands.
func (p *Pattern) put(op, x int) int {
	p.code = append(p.code, instr{op: op, x: x})
	return len(p.code) - 1
}

// registers: the first of some new ones.
func (p *Pattern) registers(n int) int {
	p.regs += n
	return p.regs - n
}

package regex

import (
	"ecmacore/api"
	"ecmacore/units"
)

// choice: another way that is left to try: where it goes on in the code and in the text, and how many old values there were.
type choice struct{ pc, at, olds, age int }

// old: what stood in a register.
type old struct{ reg, value int }

// machine holds a pattern against a text. It keeps its choices itself: however many there are, no call lies in another for them.
type machine struct {
	p       *Pattern
	l       []uint16
	pc, at  int
	took    int
	steps   int
	regs    []int // first where each group begins and ends
	ages    []int // of each register: the choice for which a value was put aside last
	olds    []old
	choices []choice
	age     int // of the newest choice that is left; 0: none is
	made    int // how many choices were made
}

func newMachine(p *Pattern, l []uint16, steps int) *machine {
	return &machine{p: p, l: l, steps: steps, regs: make([]int, p.regs), ages: make([]int, p.regs)}
}

// step throws, where there are no more.
func (m *machine) step() {
	if m.took >= m.steps {
		panic(api.ErrSteps)
	}
	m.took++
}

// try: whether the pattern is matched at a place.
func (m *machine) try(at int) bool {
	m.step()
	m.cut(0)
	m.pc, m.at = 0, at
	m.forget(0, m.p.groups+1)
	m.set(0, at)
	for m.pc < len(m.p.code) {
		in := m.p.code[m.pc]
		m.pc++
		if !m.does(in) && !m.back() {
			return false
		}
	}
	m.set(1, m.at)
	return true
}

// found: a copy, as the registers go on to be written.
func (m *machine) found() []int {
	return append([]int(nil), m.regs[:2*(m.p.groups+1)]...)
}

// set puts the old value aside, if a choice may ask for it: once for each choice.
func (m *machine) set(reg, value int) {
	if m.age > 0 && m.age != m.ages[reg] {
		m.ages[reg] = m.age
		m.olds = append(m.olds, old{reg, m.regs[reg]})
	}
	m.regs[reg] = value
}

// forget: what the groups from the first to ahead of the last have found.
func (m *machine) forget(first, last int) {
	for reg := 2 * first; reg < 2*last; reg++ {
		if m.regs[reg] >= 0 {
			m.set(reg, -1)
		}
	}
}

// leave another way to be tried.
func (m *machine) leave(pc int) {
	m.made++
	m.age = m.made
	m.choices = append(m.choices, choice{pc, m.at, len(m.olds), m.age})
}

// back goes on with the newest choice; false, if none is left.
func (m *machine) back() bool {
	n := len(m.choices) - 1
	if n < 0 {
		return false
	}
	c := m.choices[n]
	for len(m.olds) > c.olds {
		o := m.olds[len(m.olds)-1]
		m.regs[o.reg] = o.value
		m.olds = m.olds[:len(m.olds)-1]
	}
	m.cut(n)
	m.pc, m.at = c.pc, c.at
	return true
}

// cut leaves the oldest n choices.
func (m *machine) cut(n int) {
	m.choices = m.choices[:n]
	if n > 0 {
		m.age = m.choices[n-1].age
		return
	}
	m.age = 0
	m.olds = m.olds[:0]
}

// does: whether what an instruction asks for holds.
func (m *machine) does(in instr) bool {
	switch in.op {
	case opOpen:
		m.set(2*in.x, m.at)
	case opClose:
		m.set(2*in.x+1, m.at)
	case opFork:
		m.leave(in.to)
		m.step()
	case opLast:
		m.step()
	case opJump:
		m.pc = in.to
	case opLoop:
		k := &m.p.loops[in.x]
		m.set(k.count, 0)
		m.turn(k)
	case opTime:
		m.begin(&m.p.loops[in.x])
	case opAgain:
		return m.again(&m.p.loops[in.x])
	case opLook:
		m.set(in.x, len(m.choices))
		m.set(in.x+1, m.at)
	case opFound:
		m.cut(m.regs[in.x])
		m.at = m.regs[in.x+1]
	case opNot:
		m.set(in.x, len(m.choices))
		m.leave(in.to)
	case opWrong:
		m.cut(m.regs[in.x])
		return false
	default:
		m.step()
		return m.holds(in)
	}
	return true
}

// turn goes once more or ends, and leaves the other way, if it is one.
func (m *machine) turn(k *loop) {
	n := m.regs[k.count]
	switch {
	case n < k.least:
		m.pc = k.begin
	case n >= k.most:
		m.pc = k.end
	case k.lazy:
		m.leave(k.begin)
		m.pc = k.end
	default:
		m.leave(k.end)
		m.pc = k.begin
	}
}

// begin: a time of a loop.
func (m *machine) begin(k *loop) {
	m.step()
	m.set(k.count+1, m.at)
	m.forget(k.first+1, k.last+1)
}

// again: a time ended; one that need not have been must have passed something.
func (m *machine) again(k *loop) bool {
	n := m.regs[k.count]
	if n >= k.least && m.at == m.regs[k.count+1] {
		return false
	}
	m.set(k.count, n+1)
	m.turn(k)
	return true
}

// holds: whether an atom or an assertion holds here; what it matches is passed.
func (m *machine) holds(in instr) bool {
	switch in.op {
	case opBack:
		return m.repeats(in.x)
	case opBegin:
		return m.at == 0 || m.p.lines && units.EndsLine(m.l[m.at-1])
	case opEnd:
		return m.at == len(m.l) || m.p.lines && units.EndsLine(m.l[m.at])
	case opEdge:
		return m.wordAt(m.at-1) != m.wordAt(m.at)
	case opInner:
		return m.wordAt(m.at-1) == m.wordAt(m.at)
	}
	if m.at == len(m.l) || !m.takes(in, m.l[m.at]) {
		return false
	}
	m.at++
	return true
}

// takes: whether an atom of one unit matches it.
func (m *machine) takes(in instr, u uint16) bool {
	switch in.op {
	case opPoint:
		return !units.EndsLine(u)
	case opSet:
		return m.p.sets[in.x].has(u, m.p.alike)
	}
	return m.counts(u) == uint16(in.x)
}

// counts: what a unit counts as.
func (m *machine) counts(u uint16) uint16 {
	if m.p.alike {
		return upper(u)
	}
	return u
}

func (m *machine) wordAt(at int) bool {
	return at >= 0 && at < len(m.l) && isWord(m.l[at])
}

// repeats: whether what a group found stands here again. One that has not ended has found nothing.
func (m *machine) repeats(group int) bool {
	from, to := m.regs[2*group], m.regs[2*group+1]
	if to < 0 {
		return true
	}
	if len(m.l)-m.at < to-from {
		return false
	}
	for i := range to - from {
		if m.counts(m.l[from+i]) != m.counts(m.l[m.at+i]) {
			return false
		}
	}
	m.at += to - from
	return true
}

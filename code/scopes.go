package code

// scope: names that are looked for here, and then further out. (Those of a program are in none: they are the global object's.)
type scope struct {
	outer *scope
	names map[string]int // the variable of each
	fixed string         // the one that cannot be assigned: a function's own; "": none
}

func newScope(outer *scope) *scope { return &scope{outer: outer, names: map[string]int{}} }

// add: a name, if it is not there yet; its variable.
func (s *scope) add(name string) int {
	if _, has := s.names[name]; !has {
		s.names[name] = len(s.names)
	}
	return s.names[name]
}

func (s *scope) has(name string) bool {
	_, has := s.names[name]
	return has
}

// find: how many scopes further out a name is; nil: in none.
func (s *scope) find(name string) (*scope, int) {
	up := 0
	for s != nil && !s.has(name) {
		s = s.outer
		up++
	}
	return s, up
}

// readName: op is done, if it is the global object's.
func (c *compiler) readName(op Op, name string) {
	if s, up := c.scope.find(name); s != nil {
		c.addVariable(ReadVariable, s.names[name], up)
		return
	}
	c.withKey(op, name)
}

// writeName leaves the value.
func (c *compiler) writeName(name string) {
	s, up := c.scope.find(name)
	switch {
	case s == nil:
		c.withKey(WriteName, name)
	case name == s.fixed:
		c.addVariable(RefuseVariable, s.names[name], up)
	default:
		c.addVariable(WriteVariable, s.names[name], up)
	}
}

func (c *compiler) addVariable(op Op, variable, up int) {
	c.code.Instrs = append(c.code.Instrs, Instr{Op: op, Arg: variable, Up: up})
}

package parse

import "ecmacore/api"

func (r *reader) program() *api.Node {
	n := r.node(api.NProgram)
	for r.tok.Kind != api.TEnd {
		n.Kids = append(n.Kids, r.own())
	}
	return n
}

// own: a statement of a program's or a function's own, which may be a function.
func (r *reader) own() *api.Node {
	if r.is("function") {
		return r.declaration()
	}
	return r.statement()
}

func (r *reader) statement() *api.Node {
	r.deeper()
	read := (*reader).labelled
	if !r.atLabel() {
		r.settle()
		read = statementBy(r.word())
	}
	n := read(r)
	r.deep--
	return n
}

// statementBy: how the statement is read that begins with that word.
func statementBy(word string) func(*reader) *api.Node {
	switch word {
	case "{":
		return (*reader).blockStatement
	case "var":
		return (*reader).varStatement
	case ";":
		return (*reader).empty
	case "if":
		return (*reader).ifStatement
	case "do":
		return (*reader).doLoop
	case "while":
		return (*reader).whileLoop
	case "for":
		return (*reader).forLoop
	case "continue", "break":
		return (*reader).jump
	case "return":
		return (*reader).returnStatement
	case "switch":
		return (*reader).switchStatement
	case "throw":
		return (*reader).throwStatement
	case "try":
		return (*reader).tryStatement
	case "with", "function":
		return (*reader).forbidden
	}
	return (*reader).expressionStatement
}

// atLabel looks one token further. If that is none, the name is no label, and what is wrong there is found when the name was passed.
func (r *reader) atLabel() bool {
	if r.tok.Kind != api.TName {
		return false
	}
	t, err := r.lex.Next(r.tok.To, false)
	return err == nil && t.Kind == api.TPunct && t.Text == ":"
}

func (r *reader) labelled() *api.Node {
	n := r.node(api.NLabel)
	n.Text = r.tok.Text
	if r.around(n.Text, false) {
		r.wrong(api.ErrEarly)
	}
	r.pass(nowhere)
	r.expect(":", here)
	r.labels = append(r.labels, label{name: n.Text})
	r.ahead++
	n.Kids = []*api.Node{r.statement()}
	r.labels = r.labels[:len(r.labels)-1]
	return n
}

func (r *reader) forbidden() *api.Node {
	r.wrong(api.ErrEarly)
	return nil
}

func (r *reader) expressionStatement() *api.Node {
	n := r.node(api.NExpr)
	n.Kids = []*api.Node{r.expression(true)}
	r.semicolon()
	return n
}

func (r *reader) blockStatement() *api.Node { return r.block(here) }

// block: pattern: where one may begin behind it.
func (r *reader) block(pattern int) *api.Node {
	n := r.node(api.NBlock)
	r.expect("{", here)
	for !r.is("}") {
		n.Kids = append(n.Kids, r.statement())
	}
	r.pass(pattern)
	return n
}

func (r *reader) varStatement() *api.Node {
	n := r.variables(true)
	r.semicolon()
	return n
}

// variables: in: whether that is an operator in their values, as it is but in a for.
func (r *reader) variables(in bool) *api.Node {
	n := r.node(api.NVar)
	for more := true; more; more = r.is(",") {
		r.pass(nowhere)
		n.Kids = append(n.Kids, r.declarator(in))
	}
	return n
}

func (r *reader) declarator(in bool) *api.Node {
	n := r.node(api.NDecl)
	behind := nowhere
	if in {
		behind = inNextLine
	}
	n.Text = r.bound(behind)
	value := none()
	if r.is("=") {
		r.pass(here)
		value = r.assignment(in)
	}
	n.Kids = []*api.Node{value}
	return n
}

func (r *reader) empty() *api.Node {
	n := r.node(api.NEmpty)
	r.pass(here)
	return n
}

func (r *reader) ifStatement() *api.Node {
	n := r.node(api.NIf)
	r.pass(nowhere)
	test := r.bracketed(here)
	then := r.statement()
	other := none()
	if r.is("else") {
		r.pass(here)
		other = r.statement()
	}
	n.Kids = []*api.Node{test, then, other}
	return n
}

// bracketed: an expression in brackets, a statement's or its own; pattern: where one may begin behind them.
func (r *reader) bracketed(pattern int) *api.Node {
	r.expect("(", here)
	n := r.expression(true)
	r.expect(")", pattern)
	return n
}

func (r *reader) jump() *api.Node {
	n := r.node(api.NBreak)
	loop := r.is("continue")
	if loop {
		n.Kind = api.NContinue
	}
	r.pass(inNextLine)
	if r.tok.Kind == api.TName && !r.tok.Line {
		n.Text = r.tok.Text
		if !r.around(n.Text, loop) {
			r.wrong(api.ErrEarly)
		}
		r.pass(inNextLine)
	} else if r.loops == 0 && (loop || r.switches == 0) {
		wrongAt(api.ErrEarly, n.At)
	}
	r.semicolon()
	return n
}

func (r *reader) returnStatement() *api.Node {
	n := r.node(api.NReturn)
	if !r.function {
		r.wrong(api.ErrEarly)
	}
	r.pass(here)
	value := none()
	if !r.mayEnd() {
		value = r.expression(true)
	}
	r.semicolon()
	n.Kids = []*api.Node{value}
	return n
}

func (r *reader) switchStatement() *api.Node {
	n := r.node(api.NSwitch)
	r.pass(nowhere)
	n.Kids = []*api.Node{r.bracketed(nowhere)}
	r.expect("{", nowhere)
	r.switches++
	for other := false; !r.is("}"); {
		if r.is("default") {
			if other {
				r.wrong(api.ErrSyntax)
			}
			other = true
		}
		n.Kids = append(n.Kids, r.clause())
	}
	r.switches--
	r.pass(here)
	return n
}

// clause: a case or default of a switch.
func (r *reader) clause() *api.Node {
	n := r.node(api.NCase)
	value := none()
	if r.is("case") {
		r.pass(here)
		value = r.expression(true)
	} else {
		r.expect("default", nowhere)
	}
	r.expect(":", here)
	n.Kids = []*api.Node{value}
	for !r.is("case") && !r.is("default") && !r.is("}") {
		n.Kids = append(n.Kids, r.statement())
	}
	return n
}

func (r *reader) throwStatement() *api.Node {
	n := r.node(api.NThrow)
	r.pass(here)
	if r.tok.Line {
		r.wrong(api.ErrSyntax)
	}
	n.Kids = []*api.Node{r.expression(true)}
	r.semicolon()
	return n
}

func (r *reader) tryStatement() *api.Node {
	n := r.node(api.NTry)
	r.pass(nowhere)
	n.Kids = []*api.Node{r.block(nowhere), none(), none()}
	if !r.is("catch") && !r.is("finally") {
		r.wrong(api.ErrSyntax)
	}
	if r.is("catch") {
		n.Kids[1] = r.catch()
	}
	if r.is("finally") {
		r.pass(nowhere)
		n.Kids[2] = r.block(here)
	}
	return n
}

func (r *reader) catch() *api.Node {
	n := r.node(api.NCatch)
	r.pass(nowhere)
	r.expect("(", nowhere)
	n.Text = r.bound(nowhere)
	r.expect(")", nowhere)
	n.Kids = []*api.Node{r.block(here)}
	return n
}

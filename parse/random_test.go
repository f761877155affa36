package parse_test

import (
	"fmt"
	"math/rand/v2"
	"strings"
	"testing"

	"ecmacore/api"
	"ecmacore/parse"
)

// piece: a token of a program that is made up.
type piece struct {
	text string
	glue bool // no line may end ahead of it
	end  bool // a semicolon that may be left out
}

// maker makes up programs, and their trees, in which At is the number of a piece.
type maker struct {
	*rand.Rand
	pieces []piece
	deep   int
	names  int
	around []around
}

// around: what a jump may leave, in a function.
type around struct {
	loops, switches int
	labels          []string
	loopLabels      []string
	function        bool
}

func (m *maker) put(texts ...string) {
	for _, s := range texts {
		m.pieces = append(m.pieces, piece{text: s})
	}
}

func (m *maker) glue() { m.pieces[len(m.pieces)-1].glue = true }

func (m *maker) semicolon() { m.pieces = append(m.pieces, piece{text: ";", end: true}) }

func (m *maker) one(list string) string {
	l := strings.Fields(list)
	return l[m.IntN(len(l))]
}

func (m *maker) node(kind int, text string) *api.Node {
	return &api.Node{Kind: kind, Text: text, At: len(m.pieces)}
}

func (m *maker) name() string { return m.one("a b c $ _x get set of") }

func (m *maker) newName() string {
	m.names++
	return fmt.Sprint("n", m.names)
}

// levels: from the weakest on; names of nodes that have an operator between two operands.
var levels = []string{",", "=", "?", "||", "&&", "|", "^", "&", "== != === !==", "< > <= >= instanceof in", "<< >> >>>", "+ -", "* / %", "unary", "post", "call", "member", "whole"}

// expression: no weaker than that level.
func (m *maker) expression(weakest int, in bool) *api.Node {
	m.deep++
	defer func() { m.deep-- }()
	level := len(levels) - 1
	if m.deep < 9 {
		level = m.IntN(len(levels))
	}
	if level < weakest || m.IntN(12) == 0 && m.deep < 9 {
		m.put("(")
		n := m.expression(0, true)
		m.put(")")
		return n
	}
	switch levels[level] {
	case "?":
		n := m.node(api.NCond, "")
		n.Kids = append(n.Kids, m.expression(3, in))
		m.put("?")
		n.Kids = append(n.Kids, m.expression(1, true))
		m.put(":")
		n.Kids = append(n.Kids, m.expression(1, in))
		return n
	case "=":
		n := m.node(api.NAssign, m.one("= *= /= %= += -= <<= >>= >>>= &= ^= |="))
		n.Kids = append(n.Kids, m.place())
		m.put(n.Text)
		n.Kids = append(n.Kids, m.expression(1, in))
		return n
	case "unary":
		return m.unary()
	case "post":
		n := m.node(api.NPost, m.one("++ --"))
		n.Kids = append(n.Kids, m.place())
		m.put(n.Text)
		m.glue()
		return n
	case "call", "member":
		return m.member(levels[level] == "call" && weakest < len(levels)-2)
	case "whole":
		return m.whole()
	}
	return m.infix(level, in)
}

func (m *maker) infix(level int, in bool) *api.Node {
	op := m.one(levels[level])
	if op == "in" && !in {
		op = "instanceof"
	}
	kind := map[string]int{",": api.NComma, "||": api.NOr, "&&": api.NAnd}[op]
	n := m.node(kind, "")
	if kind == 0 {
		n.Kind, n.Text = api.NBinary, op
	}
	n.Kids = append(n.Kids, m.expression(level, in))
	m.put(op)
	n.Kids = append(n.Kids, m.expression(level+1, in))
	return n
}

func (m *maker) unary() *api.Node {
	n := m.node(api.NUnary, m.one("delete void typeof ++ -- + - ~ !"))
	m.put(n.Text)
	switch n.Text {
	case "++", "--":
		n.Kids = append(n.Kids, m.place())
	case "delete":
		n.Kids = append(n.Kids, m.member(true))
	default:
		n.Kids = append(n.Kids, m.expression(13, true))
	}
	return n
}

// place: what may be assigned to.
func (m *maker) place() *api.Node {
	switch m.IntN(4) {
	case 0:
		return m.dot(m.node(api.NDot, ""), m.expression(15, true))
	case 1:
		return m.index(m.node(api.NIndex, ""), m.expression(15, true))
	case 2:
		m.put("(")
		n := m.node(api.NName, m.name())
		m.put(n.Text, ")")
		return n
	}
	n := m.node(api.NName, m.name())
	m.put(n.Text)
	return n
}

func (m *maker) dot(n, object *api.Node) *api.Node {
	n.Kind, n.Text, n.Kids = api.NDot, m.one("a if in null get"), []*api.Node{object}
	m.put(".", n.Text)
	return n
}

func (m *maker) index(n, object *api.Node) *api.Node {
	n.Kind = api.NIndex
	m.put("[")
	n.Kids = []*api.Node{object, m.expression(0, true)}
	m.put("]")
	return n
}

// member: or a call, if calls may be in it, or a new.
func (m *maker) member(calls bool) *api.Node {
	n := m.node(0, "")
	weakest := 16
	if calls {
		weakest = 15
	}
	switch k := m.IntN(4); {
	case k == 0:
		return m.dot(n, m.expression(weakest, true))
	case k == 1:
		return m.index(n, m.expression(weakest, true))
	case k == 2 && calls:
		n.Kind = api.NCall
		n.Kids = append([]*api.Node{m.expression(15, true)}, m.arguments()...)
		return n
	}
	n.Kind = api.NNew
	m.put("new")
	n.Kids = append([]*api.Node{m.expression(16, true)}, m.arguments()...)
	return n
}

func (m *maker) arguments() []*api.Node {
	var l []*api.Node
	m.put("(")
	for i := m.IntN(3); i > 0; i-- {
		l = append(l, m.expression(1, true))
		if i > 1 {
			m.put(",")
		}
	}
	m.put(")")
	return l
}

func (m *maker) whole() *api.Node {
	k := m.IntN(12)
	if m.deep >= 9 {
		k = m.IntN(8)
	}
	n := m.node(api.NName, "")
	switch k {
	case 0:
		n.Kind = api.NThis
		m.put("this")
	case 1:
		n.Kind, n.Num = api.NNumber, float64(m.IntN(9))+0.5
		m.put(fmt.Sprint(n.Num))
	case 2:
		n.Kind, n.Text = api.NString, m.one("a b' \" \\")
		m.put(fmt.Sprintf("%q", n.Text))
	case 3:
		n.Kind, n.Text, n.Flags = api.NRegex, m.one("a = [/] (b)*"), m.one("g i gm")
		m.put("/" + n.Text + "/" + n.Flags)
	case 4:
		n.Kind = api.NNull + m.IntN(3)
		m.put([]string{"null", "true", "false"}[n.Kind-api.NNull])
	case 8:
		n.Kind = api.NArray
		n.Kids = m.elements()
	case 9:
		n.Kind = api.NObject
		n.Kids = m.properties()
	case 10:
		n.Kind = api.NLambda
		m.put("function")
		if m.IntN(2) == 0 {
			n.Text = m.name()
			m.put(n.Text)
		}
		m.function(n, m.IntN(3))
	default:
		n.Text = m.name()
		m.put(n.Text)
	}
	return n
}

func (m *maker) elements() []*api.Node {
	var l []*api.Node
	m.put("[")
	for i := m.IntN(4); i > 0; i-- {
		if m.IntN(3) == 0 {
			l = append(l, &api.Node{})
			m.put(",")
			continue
		}
		l = append(l, m.expression(1, true))
		if i > 1 || m.IntN(3) == 0 {
			m.put(",")
		}
	}
	m.put("]")
	return l
}

func (m *maker) properties() []*api.Node {
	var l []*api.Node
	m.put("{")
	for i := m.IntN(4); i > 0; i-- {
		n := m.node(api.NProp, fmt.Sprint(m.one("a if '"), m.names))
		m.names++
		switch m.IntN(3) {
		case 0:
			n.Kind = api.NGet
			m.put("get", fmt.Sprintf("%q", n.Text))
			f := m.node(api.NLambda, "")
			m.function(f, 0)
			n.Kids = []*api.Node{f}
		case 1:
			n.Kind = api.NSet
			m.put("set", fmt.Sprintf("%q", n.Text))
			f := m.node(api.NLambda, "")
			m.function(f, 1)
			n.Kids = []*api.Node{f}
		default:
			m.put(fmt.Sprintf("%q", n.Text), ":")
			n.Kids = []*api.Node{m.expression(1, true)}
		}
		l = append(l, n)
		if i > 1 || m.IntN(3) == 0 {
			m.put(",")
		}
	}
	m.put("}")
	return l
}

// function: its parameters and body.
func (m *maker) function(n *api.Node, params int) {
	p := m.node(api.NParams, "")
	m.put("(")
	for i := range params {
		if i > 0 {
			m.put(",")
		}
		k := m.node(api.NName, m.newName())
		m.put(k.Text)
		p.Kids = append(p.Kids, k)
	}
	m.put(")")
	b := m.node(api.NBlock, "")
	m.put("{")
	m.around = append(m.around, around{function: true})
	for m.IntN(2) == 0 {
		b.Kids = append(b.Kids, m.own())
	}
	m.around = m.around[:len(m.around)-1]
	m.put("}")
	n.Kids = []*api.Node{p, b}
}

func (m *maker) own() *api.Node {
	if m.IntN(8) > 0 || m.deep > 6 {
		return m.statement()
	}
	n := m.node(api.NFunc, m.name())
	m.put("function", n.Text)
	m.function(n, m.IntN(3))
	return n
}

func (m *maker) statement() *api.Node {
	m.deep++
	defer func() { m.deep-- }()
	n := m.node(api.NEmpty, "")
	if m.deep > 7 {
		m.put(";")
		return n
	}
	switch m.IntN(14) {
	case 0:
		m.block(n)
	case 1:
		*n = *m.variables(true, m.IntN(3)+1)
		m.semicolon()
	case 2:
		m.put(";")
	case 3:
		n.Kind = api.NIf
		m.put("if")
		n.Kids = append(n.Kids, m.bracketed())
		then, other := m.blockNode(), &api.Node{}
		if m.IntN(2) == 0 {
			m.put("else")
			other = m.statement()
		}
		n.Kids = append(n.Kids, then, other)
	case 4, 5:
		m.loop(n)
	case 6:
		m.jump(n)
	case 7:
		m.choice(n)
	case 8:
		n.Kind = api.NThrow
		m.put("throw")
		n.Kids = []*api.Node{m.glued(func() *api.Node { return m.expression(0, true) })}
		m.semicolon()
	case 9:
		m.try(n)
	case 10:
		m.label(n)
	default:
		m.simple(n)
	}
	return n
}

// glued: what is made up begins in the same line.
func (m *maker) glued(f func() *api.Node) *api.Node {
	at := len(m.pieces)
	n := f()
	m.pieces[at].glue = true
	return n
}

// simple: an expression that may be a statement.
func (m *maker) simple(n *api.Node) {
	n.Kind = api.NExpr
	n.Kids = []*api.Node{m.expression(0, true)}
	if first := m.pieces[n.At].text; first == "{" || first == "function" {
		m.pieces = m.pieces[:n.At]
		n.Kids[0] = m.node(api.NThis, "")
		m.put("this")
	}
	m.semicolon()
}

func (m *maker) block(n *api.Node) {
	n.Kind = api.NBlock
	m.put("{")
	for m.IntN(2) == 0 {
		n.Kids = append(n.Kids, m.statement())
	}
	m.put("}")
}

func (m *maker) blockNode() *api.Node {
	n := m.node(0, "")
	m.block(n)
	return n
}

func (m *maker) bracketed() *api.Node {
	m.put("(")
	n := m.expression(0, true)
	m.put(")")
	return n
}

func (m *maker) variables(in bool, count int) *api.Node {
	n := m.node(api.NVar, "")
	m.put("var")
	for i := range count {
		if i > 0 {
			m.put(",")
		}
		d := m.node(api.NDecl, m.name())
		m.put(d.Text)
		d.Kids = []*api.Node{{}}
		if m.IntN(2) == 0 {
			m.put("=")
			d.Kids[0] = m.expression(1, in)
		}
		n.Kids = append(n.Kids, d)
	}
	return n
}

func (m *maker) here() *around { return &m.around[len(m.around)-1] }

func (m *maker) loop(n *api.Node) {
	body := func() *api.Node {
		m.here().loops++
		b := m.statement()
		m.here().loops--
		return b
	}
	maybe := func() *api.Node {
		if m.IntN(2) == 0 {
			return &api.Node{}
		}
		return m.expression(0, true)
	}
	switch m.IntN(4) {
	case 0:
		n.Kind = api.NDo
		m.put("do")
		n.Kids = append(n.Kids, body())
		m.put("while")
		n.Kids = append(n.Kids, m.bracketed())
		m.semicolon()
	case 1:
		n.Kind = api.NWhile
		m.put("while")
		n.Kids = append(n.Kids, m.bracketed(), body())
	case 2:
		n.Kind = api.NFor
		m.put("for", "(")
		first := &api.Node{}
		switch m.IntN(3) {
		case 0:
			first = m.variables(false, m.IntN(3)+1)
		case 1:
			first = m.expression(0, false)
		}
		m.put(";")
		test := maybe()
		m.put(";")
		next := maybe()
		m.put(")")
		n.Kids = append(n.Kids, first, test, next, body())
	case 3:
		n.Kind = api.NForIn
		m.put("for", "(")
		if m.IntN(2) == 0 {
			n.Kids = append(n.Kids, m.variables(false, 1))
		} else {
			n.Kids = append(n.Kids, m.place())
		}
		m.put("in")
		n.Kids = append(n.Kids, m.expression(0, true))
		m.put(")")
		n.Kids = append(n.Kids, body())
	}
}

func (m *maker) jump(n *api.Node) {
	a := m.here()
	to := func(kind int, word string, labels []string, bare bool) {
		n.Kind = kind
		if !bare {
			n.Text = labels[m.IntN(len(labels))]
		}
		m.put(word)
		if n.Text != "" {
			m.put(n.Text)
			m.glue()
		}
		m.semicolon()
	}
	switch k := m.IntN(3); {
	case k == 0 && a.function:
		n.Kind = api.NReturn
		m.put("return")
		n.Kids = []*api.Node{{}}
		if m.IntN(2) == 0 {
			n.Kids[0] = m.glued(func() *api.Node { return m.expression(0, true) })
		}
		m.semicolon()
	case k == 1 && (a.loops > 0 || len(a.loopLabels) > 0):
		to(api.NContinue, "continue", a.loopLabels, len(a.loopLabels) == 0)
	case k == 2 && (a.loops+a.switches > 0 || len(a.labels) > 0):
		to(api.NBreak, "break", a.labels, len(a.labels) == 0)
	default:
		m.put(";")
	}
}

func (m *maker) choice(n *api.Node) {
	n.Kind = api.NSwitch
	m.put("switch")
	n.Kids = append(n.Kids, m.bracketed())
	m.put("{")
	m.here().switches++
	other := false
	for m.IntN(3) > 0 {
		c := m.node(api.NCase, "")
		if !other && m.IntN(3) == 0 {
			other = true
			m.put("default")
			c.Kids = []*api.Node{{}}
		} else {
			m.put("case")
			c.Kids = []*api.Node{m.expression(0, true)}
		}
		m.put(":")
		for m.IntN(2) == 0 {
			c.Kids = append(c.Kids, m.statement())
		}
		n.Kids = append(n.Kids, c)
	}
	m.here().switches--
	m.put("}")
}

func (m *maker) try(n *api.Node) {
	n.Kind = api.NTry
	m.put("try")
	n.Kids = []*api.Node{m.blockNode(), {}, {}}
	k := m.IntN(3)
	if k > 0 {
		c := m.node(api.NCatch, m.name())
		m.put("catch", "(", c.Text, ")")
		c.Kids = []*api.Node{m.blockNode()}
		n.Kids[1] = c
	}
	if k < 2 {
		m.put("finally")
		n.Kids[2] = m.blockNode()
	}
}

func (m *maker) label(n *api.Node) {
	n.Kind, n.Text = api.NLabel, m.newName()
	m.put(n.Text, ":")
	a := m.here()
	was := *a
	a.labels = append(a.labels, n.Text)
	k := m.node(0, "")
	if m.IntN(2) == 0 {
		a.loopLabels = append(a.loopLabels, n.Text)
		m.loop(k)
	} else {
		*k = *m.statement()
	}
	*m.here() = was
	n.Kids = []*api.Node{k}
}

// text: of all pieces, and where each begins.
func (m *maker) text() (string, []int) {
	var b strings.Builder
	var at []int
	for i, p := range m.pieces {
		blank := m.blank(i)
		if p.end && m.left(i) {
			p.text = "\n"
		}
		b.WriteString(blank)
		at = append(at, b.Len())
		b.WriteString(p.text)
	}
	return b.String(), append(at, b.Len())
}

// left: a semicolon may be left out, if a line ends there.
func (m *maker) left(i int) bool {
	if i+1 == len(m.pieces) {
		return true
	}
	next := m.pieces[i+1].text
	if next == "in" || next == "instanceof" || m.IntN(2) == 0 {
		return false
	}
	return next == "}" || strings.ContainsAny(next[:1], "abcdefghijklmnopqrstuvwxyz_$'\"123456789{")
}

// blank: what stands ahead of a piece.
func (m *maker) blank(i int) string {
	const lone = "()[]{};,"
	if i > 0 && m.IntN(2) == 0 && (strings.Contains(lone, m.pieces[i].text) || strings.Contains(lone, m.pieces[i-1].text)) {
		return ""
	}
	if i > 0 && m.pieces[i-1].text == "/" {
		return " " // a comment would take it
	}
	all := []string{" ", " ", "/**/", "\t", "\u00a0", "/*a*/ ", "\n", "\r\n", "//\n", "/*\n*/", "\u2028"}
	if m.pieces[i].glue || m.pieces[i].end {
		all = all[:6]
	}
	return all[m.IntN(len(all))]
}

// madeUp: a program, and its tree.
func madeUp(src *rand.Rand) (string, *api.Node) {
	m := &maker{Rand: src, around: []around{{}}}
	n := m.node(api.NProgram, "")
	for range src.IntN(4) {
		n.Kids = append(n.Kids, m.own())
	}
	s, at := m.text()
	eachNode(n, func(k *api.Node) {
		if k.Kind != api.NNone {
			k.At = at[k.At]
		}
	})
	return s, n
}

// P40 to P44, P50: programs that are made up have the trees of which they were made.
func TestMadeUp(t *testing.T) {
	src := rand.New(rand.NewPCG(5, 6))
	for range 4000 {
		s, want := madeUp(src)
		n, err := parse.Program(s)
		if got, want := told(n, true), told(want, true); err != nil || got != want {
			t.Fatalf("Program(%q): %v\n got %s\nwant %s", s, err, got, want)
		}
		mustWrite(t, n)
		if t.Failed() {
			t.Fatalf("%q", s)
		}
	}
}

// P1 to P4: whatever the text is, a call ends, and answers the same again; what is answered is new.
func TestAnything(t *testing.T) {
	src := rand.New(rand.NewPCG(7, 8))
	words := strings.Fields("break case catch continue default delete do else finally for function if in instanceof new return switch this throw try typeof var void while with class null true false a b eval arguments get set 0 1.5 'a' /a/ /(/ { } ( ) [ ] { } ( ) [ ] . ; , < > == + - * ++ -- << & ! ~ && || ? : = += / /= \\ @ \xff \u00e9 \" /* // \n \r \u2028 \\u0061 \\u0069f")
	right := 0
	for i := range 15000 {
		s, _ := madeUp(src)
		if i%3 == 0 {
			s = ""
			for range src.IntN(9) {
				s += words[src.IntN(len(words))] + []string{"", " ", "\n"}[src.IntN(3)]
			}
		}
		for range src.IntN(3) {
			k := src.IntN(len(s) + 1)
			s = s[:k] + words[src.IntN(len(words))] + s[min(k+src.IntN(4), len(s)):]
		}
		n, err := parse.Program(s)
		m, err2 := parse.Program(strings.Clone(s))
		if told(n, true) != told(m, true) || fmt.Sprint(err) != fmt.Sprint(err2) {
			t.Fatalf("Program(%q): %v, then %v", s, err, err2)
		}
		if err != nil {
			f, ok := err.(*api.Fault)
			if n != nil || !ok || f.Err < api.ErrSyntax || f.Err > api.ErrDeep || f.At < 0 || f.At > len(s) {
				t.Fatalf("Program(%q): %v", s, err)
			}
			continue
		}
		right++
		mustBeNew(t, n, m)
		mustWrite(t, n)
	}
	if right < 1500 {
		t.Errorf("only %d of the texts were programs", right)
	}
}

// mustBeNew: no node is in two trees, or twice in one.
func mustBeNew(t *testing.T, trees ...*api.Node) {
	t.Helper()
	seen := make(map[*api.Node]bool)
	for _, n := range trees {
		eachNode(n, func(k *api.Node) {
			if seen[k] {
				t.Fatalf("%s is there twice", told(k, true))
			}
			seen[k] = true
		})
	}
}

// P1, P50: whatever the tree is, what is written is its text.
func TestAnyTree(t *testing.T) {
	src := rand.New(rand.NewPCG(9, 10))
	texts := []string{"", "a", "if", "+", "++", "=", "in", "||", "'", "\xff", "1", "a b", "("}
	for range 3000 {
		_, n := madeUp(src)
		var all []*api.Node
		eachNode(n, func(k *api.Node) { all = append(all, k) })
		for range src.IntN(3) + 1 {
			k := all[src.IntN(len(all))]
			switch src.IntN(7) {
			case 0:
				k.Kind = src.IntN(60) - 2
			case 1:
				k.Text = texts[src.IntN(len(texts))]
			case 2:
				k.Kids = append(k.Kids, all[src.IntN(len(all))])
			case 3:
				if len(k.Kids) > 0 {
					k.Kids[src.IntN(len(k.Kids))] = all[src.IntN(len(all))]
				}
			case 4:
				if len(k.Kids) > 0 {
					k.Kids[src.IntN(len(k.Kids))] = nil
				}
			case 5:
				k.Kids = k.Kids[:src.IntN(len(k.Kids)+1)]
			case 6:
				k.Num, k.Flags = 1, texts[src.IntN(len(texts))]
			}
		}
		mustBeHonest(t, n)
	}
}

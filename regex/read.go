package regex

import (
	"math"
	"unicode"

	"ecmacore/api"
)

// The kinds of nodes.
const (
	kindLeaf   = iota // leaf
	kindRow           // kids, one behind the other
	kindEither        // kids: at least two alternatives
	kindGroup         // group; kids: what stands in it
	kindLoop          // loop; kids: what is done several times
	kindLook          // (?= ); kids: what stands in it
	kindNot           // (?! ); kids: what stands in it
)

// node: a part of a pattern, as it was read.
type node struct {
	kind  int
	leaf  instr
	group int
	loop  loop
	kids  []*node
}

// mostTimes: numbers above it count as it.
const mostTimes = 1<<31 - 1

// forever: no loop goes so often.
const forever = math.MaxInt

// reader goes through the units of a pattern, and throws what is wrong at the first one that does not belong.
type reader struct {
	l      []uint16
	at     int
	deep   int // how deep brackets lie here
	terms  int // how many have begun
	groups int // how many have opened
	back   int // the greatest group that is spoken of
	sets   []set
}

func (r *reader) ended() bool { return r.at == len(r.l) }

// is: whether that unit comes next.
func (r *reader) is(u uint16) bool { return !r.ended() && r.l[r.at] == u }

// eat passes that unit, if it comes next.
func (r *reader) eat(u uint16) bool {
	is := r.is(u)
	if is {
		r.at++
	}
	return is
}

func (r *reader) next() uint16 {
	if r.ended() {
		panic(api.ErrSyntax)
	}
	r.at++
	return r.l[r.at-1]
}

func (r *reader) must(u uint16) {
	if r.next() != u {
		panic(api.ErrSyntax)
	}
}

// pattern reads up to the end, or up to a bracket that closes.
func (r *reader) pattern() *node {
	rows := []*node{r.row()}
	for r.eat('|') {
		rows = append(rows, r.row())
	}
	if len(rows) == 1 {
		return rows[0]
	}
	return &node{kind: kindEither, kids: rows}
}

func (r *reader) row() *node {
	n := &node{kind: kindRow}
	for !r.ended() && !r.is('|') && !r.is(')') {
		n.kids = append(n.kids, r.term())
	}
	return n
}

func (r *reader) term() *node {
	r.terms++
	if r.terms > api.MaxParts {
		panic(api.ErrDeep)
	}
	first := r.groups
	n, asserts := r.part()
	if asserts {
		return n
	}
	return r.times(n, first)
}

// part: an assertion (true) or an atom.
func (r *reader) part() (*node, bool) {
	switch u := r.next(); u {
	case '^':
		return leaf(opBegin, 0), true
	case '$':
		return leaf(opEnd, 0), true
	case '(':
		return r.bracket()
	case '\\':
		return r.stroke()
	case '.':
		return leaf(opPoint, 0), false
	case '[':
		return r.class(), false
	case '*', '+', '?', ')', ']', '{', '}', '|':
		panic(api.ErrSyntax)
	default:
		return leaf(opUnit, int(u)), false
	}
}

func leaf(op, x int) *node { return &node{leaf: instr{op: op, x: x}} }

// bracket reads behind the one that opened.
func (r *reader) bracket() (*node, bool) {
	r.deep++
	if r.deep > api.MaxDeep {
		panic(api.ErrDeep)
	}
	n := r.opened()
	n.kids = []*node{r.pattern()}
	r.must(')')
	r.deep--
	return n, n.kind == kindLook || n.kind == kindNot
}

// opened: what kind of bracket it is.
func (r *reader) opened() *node {
	if !r.eat('?') {
		r.groups++
		return &node{kind: kindGroup, group: r.groups}
	}
	switch r.next() {
	case ':':
		return &node{kind: kindRow}
	case '=':
		return &node{kind: kindLook}
	case '!':
		return &node{kind: kindNot}
	}
	panic(api.ErrSyntax)
}

// times reads how often an atom may stand; first: how many groups there were ahead of it.
func (r *reader) times(atom *node, first int) *node {
	k := loop{most: forever, first: first, last: r.groups}
	switch {
	case r.eat('*'):
	case r.eat('+'):
		k.least = 1
	case r.eat('?'):
		k.most = 1
	case r.eat('{'):
		k.least, k.most = r.bounds()
	default:
		return atom
	}
	k.lazy = r.eat('?')
	return &node{kind: kindLoop, loop: k, kids: []*node{atom}}
}

// bounds reads behind the bracket that opened.
func (r *reader) bounds() (int, int) {
	least := r.number()
	most := least
	if r.eat(',') {
		most = forever
		if !r.is('}') {
			most = r.number()
		}
	}
	r.must('}')
	if most < least {
		panic(api.ErrSyntax)
	}
	return least, most
}

// number reads at least one digit.
func (r *reader) number() int {
	u := r.next()
	if !isDigit(u) {
		panic(api.ErrSyntax)
	}
	n := int(u - '0')
	for !r.ended() && isDigit(r.l[r.at]) {
		d := int(r.next() - '0')
		if n > (mostTimes-d)/10 {
			n = mostTimes
		} else {
			n = n*10 + d
		}
	}
	return n
}

// stroke reads behind a stroke outside of a class.
func (r *reader) stroke() (*node, bool) {
	switch {
	case r.eat('b'):
		return leaf(opEdge, 0), true
	case r.eat('B'):
		return leaf(opInner, 0), true
	case !r.ended() && r.l[r.at] >= '1' && r.l[r.at] <= '9':
		group := r.number()
		r.back = max(r.back, group)
		return leaf(opBack, group), false
	}
	u, many := r.escape()
	if many != nil {
		return r.setOf(set{spans: many}), false
	}
	return leaf(opUnit, int(u)), false
}

func (r *reader) setOf(s set) *node {
	r.sets = append(r.sets, s)
	return leaf(opSet, len(r.sets)-1)
}

// escape reads behind a stroke: one unit, or (not nil) the spans of many.
func (r *reader) escape() (uint16, []span) {
	u := r.next()
	switch u {
	case 't':
		return '\t', nil
	case 'n':
		return '\n', nil
	case 'v':
		return '\v', nil
	case 'f':
		return '\f', nil
	case 'r':
		return '\r', nil
	case '0':
		if !r.ended() && isDigit(r.l[r.at]) {
			panic(api.ErrSyntax)
		}
		return 0, nil
	case 'x':
		return r.hex(2), nil
	case 'u':
		return r.hex(4), nil
	case 'c':
		return r.control(), nil
	}
	if many := spansOf(u); many != nil {
		return 0, many
	}
	if isWord(u) || u == '$' || u > 0x7f && (unicode.IsLetter(rune(u)) || unicode.IsDigit(rune(u))) {
		panic(api.ErrSyntax)
	}
	return u, nil
}

func (r *reader) hex(digits int) uint16 {
	n := uint16(0)
	for range digits {
		n = n<<4 | hexDigit(r.next())
	}
	return n
}

func hexDigit(u uint16) uint16 {
	switch {
	case isDigit(u):
		return u - '0'
	case u >= 'a' && u <= 'f':
		return u - 'a' + 10
	case u >= 'A' && u <= 'F':
		return u - 'A' + 10
	}
	panic(api.ErrSyntax)
}

func (r *reader) control() uint16 {
	u := r.next()
	if !isLetter(u) {
		panic(api.ErrSyntax)
	}
	return u & 31
}

// class reads behind the bracket that opened.
func (r *reader) class() *node {
	s := set{not: r.eat('^')}
	for !r.eat(']') {
		s.spans = append(s.spans, r.member()...)
	}
	s.spans = joined(s.spans)
	return r.setOf(s)
}

// member: a unit, an escape, or a span from one to another.
func (r *reader) member() []span {
	from, many := r.one()
	if !r.is('-') || r.at+1 < len(r.l) && r.l[r.at+1] == ']' {
		if many != nil {
			return many
		}
		return []span{{from, from}}
	}
	r.at++
	to, more := r.one()
	if many != nil || more != nil || to < from {
		panic(api.ErrSyntax)
	}
	return []span{{from, to}}
}

// one: a unit, or an escape of many.
func (r *reader) one() (uint16, []span) {
	u := r.next()
	if u != '\\' {
		return u, nil
	}
	if r.eat('b') {
		return '\b', nil
	}
	return r.escape()
}

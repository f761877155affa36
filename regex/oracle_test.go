package regex

import (
	"errors"
	"math/rand/v2"
	"slices"
	"strings"
	"testing"

	"ecmacore/api"
	"ecmacore/units"
)

// oracle holds a tree against a text by functions that call what follows, as chapter 3's words go: slow, and without instructions, registers or choices of its own.
type oracle struct {
	p     *Pattern
	l     []uint16
	took  int
	steps int
	alike map[uint16][]uint16 // all units by what they count as
}

// state: where it is, and what groups have found. It is copied where it changes.
type state struct {
	at   int
	caps []int
}

type follow func(state) (state, bool)

func (o *oracle) step() {
	if o.took >= o.steps {
		panic(api.ErrSteps)
	}
	o.took++
}

func (s state) with(group, from, to int) state {
	s.caps = slices.Clone(s.caps)
	s.caps[2*group], s.caps[2*group+1] = from, to
	return s
}

func (o *oracle) match(n *node, s state, then follow) (state, bool) {
	switch n.kind {
	case kindLeaf:
		return o.leaf(n.leaf, s, then)
	case kindRow:
		return o.row(n.kids, s, then)
	case kindEither:
		for _, k := range n.kids {
			o.step()
			if e, ok := o.match(k, s, then); ok {
				return e, true
			}
		}
		return state{}, false
	case kindGroup:
		from := s.at
		return o.match(n.kids[0], s, func(s state) (state, bool) { return then(s.with(n.group, from, s.at)) })
	case kindLoop:
		return o.times(n, 0, s, then)
	}
	e, ok := o.match(n.kids[0], s, func(s state) (state, bool) { return s, true })
	if ok != (n.kind == kindLook) {
		return state{}, false
	}
	if ok {
		s.caps = e.caps
	}
	return then(s)
}

func (o *oracle) row(kids []*node, s state, then follow) (state, bool) {
	if len(kids) == 0 {
		return then(s)
	}
	return o.match(kids[0], s, func(s state) (state, bool) { return o.row(kids[1:], s, then) })
}

func (o *oracle) times(n *node, done int, s state, then follow) (state, bool) {
	more := func() (state, bool) {
		o.step()
		from := s
		for g := n.loop.first + 1; g <= n.loop.last; g++ {
			from = from.with(g, -1, -1)
		}
		return o.match(n.kids[0], from, func(e state) (state, bool) {
			if done >= n.loop.least && e.at == s.at {
				return state{}, false
			}
			return o.times(n, done+1, e, then)
		})
	}
	switch {
	case done < n.loop.least:
		return more()
	case done >= n.loop.most:
		return then(s)
	case n.loop.lazy:
		if e, ok := then(s); ok {
			return e, true
		}
		return more()
	}
	if e, ok := more(); ok {
		return e, true
	}
	return then(s)
}

func (o *oracle) word(at int) bool {
	return at >= 0 && at < len(o.l) && (o.l[at] == '_' || strings.ContainsRune("0123456789abcdefghijklmnopqrstuvwxyzABCDEFGHIJKLMNOPQRSTUVWXYZ", rune(o.l[at])))
}

func (o *oracle) ends(at int) bool {
	return at >= 0 && at < len(o.l) && slices.Contains([]uint16{10, 13, 0x2028, 0x2029}, o.l[at])
}

func (o *oracle) same(a, b uint16) bool { return a == b || o.p.alike && upper(a) == upper(b) }

func (o *oracle) leaf(in instr, s state, then follow) (state, bool) {
	o.step()
	ok, n := false, 0
	switch in.op {
	case opBegin:
		ok = s.at == 0 || o.p.lines && o.ends(s.at-1)
	case opEnd:
		ok = s.at == len(o.l) || o.p.lines && o.ends(s.at)
	case opEdge:
		ok = o.word(s.at-1) != o.word(s.at)
	case opInner:
		ok = o.word(s.at-1) == o.word(s.at)
	case opBack:
		ok = true
		if from, to := s.caps[2*in.x], s.caps[2*in.x+1]; to >= 0 {
			n = to - from
			ok = s.at+n <= len(o.l) && slices.EqualFunc(o.l[from:to], o.l[s.at:s.at+n], o.same)
		}
	default:
		n = 1
		ok = s.at < len(o.l) && o.has(in, o.l[s.at])
	}
	if !ok {
		return state{}, false
	}
	s.at += n
	return then(s)
}

func (o *oracle) has(in instr, u uint16) bool {
	switch in.op {
	case opUnit:
		return o.same(uint16(in.x), u)
	case opPoint:
		return !slices.Contains([]uint16{10, 13, 0x2028, 0x2029}, u)
	}
	s := o.p.sets[in.x]
	listed := func(v uint16) bool {
		return slices.ContainsFunc(s.spans, func(k span) bool { return k.from <= v && v <= k.to })
	}
	if o.p.alike {
		return slices.ContainsFunc(o.alike[upper(u)], listed) != s.not
	}
	return listed(u) != s.not
}

func (o *oracle) find(n *node, from int) (found []int, err error) {
	defer func() {
		if r := recover(); r != nil {
			found, err = nil, r.(api.Errno)
		}
	}()
	for at := from; at <= len(o.l); at++ {
		o.step()
		s := state{at, slices.Repeat([]int{-1}, 2*(o.p.groups+1))}
		if e, ok := o.match(n, s, func(s state) (state, bool) { return s, true }); ok {
			e.caps[0], e.caps[1] = at, e.at
			return e.caps, nil
		}
	}
	return nil, nil
}

// writer writes patterns that may be any, within a depth.
type writer struct {
	r      *rand.Rand
	groups int
}

func (w *writer) pattern(deep int) string {
	s := w.row(deep)
	for w.r.IntN(4) == 0 {
		s += "|" + w.row(deep)
	}
	return s
}

func (w *writer) row(deep int) string {
	s := ""
	for range w.r.IntN(4) {
		s += w.term(deep)
	}
	return s
}

func (w *writer) term(deep int) string {
	switch n := w.r.IntN(24); {
	case n < 4:
		return []string{"^", "$", `\b`, `\B`}[n]
	case n < 7 && deep > 0:
		return []string{"(?=", "(?!", "(?!"}[n-4] + w.pattern(deep-1) + ")"
	}
	atom := w.atom(deep)
	if w.r.IntN(2) == 0 {
		return atom
	}
	times := []string{"*", "+", "?", "{2}", "{1,}", "{0,2}", "{1,3}", "{0}", "{3,}"}
	return atom + times[w.r.IntN(len(times))] + []string{"", "?"}[w.r.IntN(2)]
}

func (w *writer) atom(deep int) string {
	switch n := w.r.IntN(16); {
	case n < 5 && deep > 0:
		w.groups++
		return "(" + w.pattern(deep-1) + ")"
	case n < 7 && deep > 0:
		return "(?:" + w.pattern(deep-1) + ")"
	case n < 9 && w.groups > 0:
		return `\` + string(rune('1'+w.r.IntN(min(9, w.groups)))) + "(?:)"
	}
	atoms := []string{"a", "b", "A", ".", "[ab]", "[^a]", `\w`, `\W`, `\d`, `\s`, `[^\W]`, "[]", "\u00e9", "[\u00c9B]", `\n`, "_"}
	return atoms[w.r.IntN(len(atoms))]
}

// P23, P24, P25: the machine answers what the words of the chapter do, with as many steps.
func TestAgainstOracle(t *testing.T) {
	r := rand.New(rand.NewPCG(5, 6))
	texts := []rune("aaabbbAB\u00e9\u00c9\n_ 1")
	alike := map[uint16][]uint16{}
	for u := range 1 << 16 {
		alike[upper(uint16(u))] = append(alike[upper(uint16(u))], uint16(u))
	}
	for range 60000 {
		w := &writer{r: r}
		pattern := w.pattern(3)
		flags := []string{"", "i", "m", "im", "g"}[r.IntN(5)]
		p, err := Compile(pattern, flags)
		if err != nil {
			t.Fatalf("Compile(%q, %q) = %v", pattern, flags, err)
		}
		text := make([]rune, r.IntN(9))
		for i := range text {
			text[i] = texts[r.IntN(len(texts))]
		}
		l := units.Units(string(text))
		rd := reader{l: units.Units(pattern), deep: 1}
		tree := rd.pattern()
		steps := []int{30, 3000}[r.IntN(2)]
		o := &oracle{p: p, l: l, steps: steps, alike: alike}
		want, wantErr := o.find(tree, 0)
		got, took, err := p.Find(l, 0, steps)
		if !slices.Equal(got, want) || (got == nil) != (want == nil) || took != o.took || !errors.Is(err, wantErr) {
			t.Fatalf("Find(%q, %q, %q) = %v, %d, %v, want %v, %d, %v", pattern, flags, string(text), got, took, err, want, o.took, wantErr)
		}
	}
}

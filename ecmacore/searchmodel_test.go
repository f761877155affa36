package ecmacore_test

import (
	"fmt"
	"math/rand/v2"
	"regexp"
	"slices"
	"strconv"
	"strings"
	"testing"

	"ecmacore/api"
	"ecmacore/ecmacore"
	"ecmacore/regex"
	"ecmacore/units"
)

// searcher makes up patterns and texts, and tells what the functions that search do with them, by chapter 3's Find and Match alone.
type searcher struct {
	*rand.Rand
	pattern, flags string
	compiled       *regex.Pattern
	text           []uint16
	last           int // lastIndex
	steps          int
}

func (g *searcher) one(l ...string) string { return l[g.IntN(len(l))] }

func (g *searcher) atom(deep int) string {
	if deep > 0 && g.IntN(3) == 0 {
		return g.one("(", "(", "(?:") + g.row(deep-1) + ")"
	}
	return g.one("a", "b", "a", "b", "1", "\\d", ".", "[ab]", "[^a]", "\\ud83d", "\\w", "\\W")
}

func (g *searcher) row(deep int) string {
	text := ""
	for i := range 1 + g.IntN(2)*g.IntN(2) {
		if i > 0 {
			text += "|"
		}
		for range g.IntN(3) {
			if deep > 0 && g.IntN(8) == 0 {
				text += g.one("(?=", "(?!") + g.row(deep-1) + ")"
			}
			text += g.one("", "", "", "", "^", "$", "\\b") + g.atom(deep) + g.one("", "", "", "*", "+", "?", "*?", "??", "{2}")
		}
	}
	return text
}

// next: another pattern and text.
func (g *searcher) next(t *testing.T) {
	g.pattern, g.flags = g.row(2), g.one("", "g", "g", "gi", "gm", "i")
	if g.pattern == "" {
		g.pattern = "(?:)"
	}
	p, err := regex.Compile(g.pattern, g.flags)
	if err != nil {
		t.Fatalf("%s: %v", g.pattern, err)
	}
	g.compiled, g.text, g.last, g.steps = p, nil, g.IntN(7)-1, 0
	for range g.IntN(7) {
		g.text = append(g.text, []uint16{'a', 'b', 'a', 'b', 'A', '1', '\n', 0xd83d, 0xde00}[g.IntN(9)])
	}
}

func (g *searcher) global() bool { return strings.Contains(g.flags, "g") }

func (g *searcher) find(from int) []int {
	found, steps, _ := g.compiled.Find(g.text, from, 1<<40)
	g.steps += steps
	return found
}

func (g *searcher) at(at int) []int {
	found, steps, _ := g.compiled.Match(g.text, at, 1<<40)
	g.steps += steps
	return found
}

// cut: a piece of the text as telling tells it; undefined, if there is none.
func (g *searcher) cut(from, to int) string {
	if from < 0 {
		return "[undefined]"
	}
	return "[" + units.Text(g.text[from:to]) + "]"
}

// groups that were found, or not.
func (g *searcher) groups(found []int) string {
	text := ""
	for i := 2; i < len(found); i += 2 {
		text += g.cut(found[i], found[i+1])
	}
	return text
}

func (g *searcher) exec() []int {
	from := 0
	if g.global() {
		from = g.last
	}
	var found []int
	if from >= 0 && from <= len(g.text) {
		found = g.find(from)
	}
	if found == nil {
		g.last = 0
	} else if g.global() {
		g.last = found[1]
	}
	return found
}

func (g *searcher) execTold() string {
	found := g.exec()
	if found == nil {
		return "[null]"
	}
	return g.cut(found[0], found[1]) + g.groups(found) + "at" + strconv.Itoa(found[0]) + g.cut(0, len(g.text))
}

func (g *searcher) match() string {
	if !g.global() {
		return g.execTold()
	}
	g.last = 0
	text, before := "", 0
	for found := g.exec(); found != nil; found = g.exec() {
		if g.last == before {
			g.last++
		}
		before = g.last
		text += g.cut(found[0], found[1])
	}
	if text == "" {
		return "[null]"
	}
	return text
}

func (g *searcher) search() string {
	if found := g.find(0); found != nil {
		return strconv.Itoa(found[0])
	}
	return "-1"
}

// replaced: the text, with what by gives in the place of what is found.
func (g *searcher) replaced(by func(found []int) string) string {
	text, end := "", 0
	if g.global() {
		g.last = 0
	}
	for from := 0; ; {
		found := g.find(from)
		if found == nil {
			break
		}
		text += units.Text(g.text[end:found[0]]) + by(found)
		end, from = found[1], max(found[1], found[0]+1)
		if !g.global() {
			break
		}
	}
	return units.Text(units.Units(text + units.Text(g.text[end:])))
}

var signs = regexp.MustCompile("\\$([$&`']|[0-9][0-9]?)")

// template: what a text with signs stands for.
func (g *searcher) template(by string) func(found []int) string {
	return func(found []int) string {
		piece := func(from, to int) string { return units.Text(g.text[max(from, 0):max(to, 0)]) }
		return signs.ReplaceAllStringFunc(by, func(s string) string {
			switch s[1] {
			case '$':
				return "$"
			case '&':
				return piece(found[0], found[1])
			case '`':
				return piece(0, found[0])
			case '\'':
				return piece(found[1], len(g.text))
			}
			for end := len(s); end > 1; end-- {
				if n, _ := strconv.Atoi(s[1:end]); n > 0 && n <= g.compiled.Groups() {
					return piece(found[2*n], found[2*n+1]) + s[end:]
				}
			}
			return s
		})
	}
}

// split into at most so many pieces.
func (g *searcher) split(most int) string {
	var l []string
	n := len(g.text)
	if n == 0 && most > 0 && g.at(0) != nil {
		return ""
	}
	begin := 0
	for at := 0; at < n && len(l) < most; at++ {
		found := g.at(at)
		if found == nil || found[1] == begin {
			continue
		}
		l = append(l, g.cut(begin, at))
		for i := 2; i < len(found); i += 2 {
			l = append(l, g.cut(found[i], found[i+1]))
		}
		begin, at = found[1], found[1]-1
	}
	l = append(l, g.cut(begin, n))
	return strings.Join(l[:min(most, len(l))], "")
}

// telling all of what a function gave.
const tellingSearch = "(function (v) { if (typeof v != 'object') return v; if (!v) return '[null]'; var s = ''; for (var i = 0; i < v.length; i++) s += '[' + v[i] + ']'; return 'index' in v ? s + 'at' + v.index + '[' + v.input + ']' : s })(R)"

// act: a program that searches, and what it gives and takes.
func (g *searcher) act() (src, want string) {
	switch g.IntN(8) {
	case 0:
		return "r.exec(s)", g.execTold()
	case 1:
		return "r.test(s)", fmt.Sprint(g.exec() != nil)
	case 2:
		return "s.match(r)", g.match()
	case 3:
		return "s.search(r)", g.search()
	case 4:
		calls := 0
		want := g.replaced(func(found []int) string {
			calls++
			return "<" + strconv.Itoa(found[0]) + strings.ReplaceAll(g.cut(found[0], found[1])+g.groups(found), "[undefined]", "[]") + ">"
		})
		g.steps += calls
		return "s.replace(r, f)", want
	case 5:
		by := ""
		for range g.IntN(5) {
			by += g.one("$", "$$", "$&", "$`", "$'", "$1", "$2", "$01", "$10", "$00", "$0", "x", "1")
		}
		return "s.replace(r, " + strconv.Quote(by) + ")", g.replaced(g.template(by))
	case 6:
		most := g.IntN(6)
		return fmt.Sprintf("s.split(r, %d)", most), g.split(most)
	}
	return "s.split(r)", g.split(1 << 30)
}

// P102, P103, P104, P107: what is found, what becomes of lastIndex, and how many steps that takes.
func TestSearchModel(t *testing.T) {
	g := &searcher{Rand: rand.New(rand.NewPCG(28, 3))}
	w := ecmacore.New(2)
	// Its groups are told as join tells them, which takes a step for each.
	w.Run("function f() { var n = arguments.length, s = '<' + arguments[n - 2], i = 0; return s + told(arguments, n - 2) + '>' } var told = (function (l, n) { return n ? told(l, n - 1) + '[' + (l[n - 1] === undefined ? '' : l[n - 1]) + ']' : '' })", api.Limits{})
	given := 0
	for range 10000 {
		g.next(t)
		setting := fmt.Sprintf("var r = /%s/%s, s = %s; r.lastIndex = %d", g.pattern, g.flags, literal(g.text), g.last)
		src, want := g.act()
		if strings.HasSuffix(src, "f)") { // told is entered once more for each group and what was found
			calls := strings.Count(want, "<")
			g.steps += calls * (g.compiled.Groups() + 2)
		}
		w.Run(setting, api.Limits{})
		r := w.Run("var R = "+src, api.Limits{Steps: 1 << 20})
		told := w.Run("print("+tellingSearch+", r.lastIndex)", api.Limits{Steps: 1 << 20})
		if r.How != api.Ended || r.Steps != g.steps || !slices.Equal(told.Lines, []string{want + " " + strconv.Itoa(g.last)}) {
			t.Fatalf("%s; %s\n got %q, %+v\nwant %q %d, %d steps", setting, src, told.Lines, r, want, g.last, g.steps)
		}
		if want != "[null]" && want != "-1" && want != "false" {
			given++
		}
		if g.steps > 0 {
			if r := ranAgain(w, setting, "var R = "+src, g.steps-1); r.How != api.Cut || r.Steps != g.steps-1 {
				t.Fatalf("%s; %s with a step less\n got %+v", setting, src, r)
			}
		}
	}
	if given < 6000 {
		t.Errorf("only %d found something", given)
	}
}

func ranAgain(w *ecmacore.World, setting, src string, steps int) api.Result {
	w.Run(setting, api.Limits{})
	return w.Run(src, api.Limits{Steps: steps})
}

package ecmacore_test

import (
	"reflect"
	"strings"
	"testing"

	"ecmacore/api"
	"ecmacore/ecmacore"
	"ecmacore/parse"
)

const many = 100000 // steps

// level of a world in which programs are run.
type level int

func (l level) run(src string, steps int) api.Result {
	return ecmacore.New(int(l)).Run(src, api.Limits{Steps: steps})
}

// gives: each expression is printed as that.
func (l level) gives(t *testing.T, cases ...[2]string) {
	t.Helper()
	for _, c := range cases {
		l.says(t, "print("+c[0]+")", c[1])
	}
}

// says: the program prints these lines, and ends.
func (l level) says(t *testing.T, src string, lines ...string) {
	t.Helper()
	r := l.run(src, many)
	r.Steps = 0
	if want := (api.Result{Lines: lines, How: api.Ended}); !reflect.DeepEqual(r, want) {
		t.Errorf("%s\n got %+v\nwant %+v", src, r, want)
	}
}

// end: what a program does.
type end struct {
	src   string
	text  string // what was thrown; "": it ended
	steps int
	lines []string
}

// ends: each program has that result.
func (l level) ends(t *testing.T, cases ...end) {
	t.Helper()
	for _, c := range cases {
		want := api.Result{Lines: c.lines, How: api.Ended, Text: c.text, Steps: c.steps}
		if c.text != "" {
			want.How = api.Thrown
		}
		if r := l.run(c.src, many); !reflect.DeepEqual(r, want) {
			t.Errorf("%s\n got %+v\nwant %+v", c.src, r, want)
		}
	}
}

// What is thrown where the document names an error.
const (
	typeError      = "Error TypeError "
	rangeError     = "Error RangeError "
	referenceError = "Error ReferenceError "
)

// fails: each program throws that at once: nothing was printed, no step was taken.
func (l level) fails(t *testing.T, text string, sources ...string) {
	t.Helper()
	for _, src := range sources {
		l.ends(t, end{src: src, text: text})
	}
}

// The same in worlds of level 0.

func run(src string, steps int) api.Result { return level(0).run(src, steps) }

func gives(t *testing.T, cases ...[2]string) {
	t.Helper()
	level(0).gives(t, cases...)
}

func says(t *testing.T, src string, lines ...string) {
	t.Helper()
	level(0).says(t, src, lines...)
}

func ends(t *testing.T, cases ...end) {
	t.Helper()
	level(0).ends(t, cases...)
}

func fails(t *testing.T, text string, sources ...string) {
	t.Helper()
	level(0).fails(t, text, sources...)
}

// turned: a program, each node of which was changed: those within others behind them.
func turned(t *testing.T, src string, turn func(n *api.Node)) string {
	t.Helper()
	n, err := parse.Program(src)
	if err != nil {
		t.Fatal(src, err)
	}
	var each func(n *api.Node)
	each = func(n *api.Node) {
		kids := n.Kids
		turn(n)
		for _, k := range kids {
			each(k)
		}
	}
	each(n)
	text, err := parse.Text(n)
	if err != nil {
		t.Fatal(src, err)
	}
	return text
}

// of: a string of so many units, as an expression.
func of(n int, unit string) string { return "'" + strings.Repeat(unit, n) + "'" }

// What is taken for a primitive tells by steps that it was: two takes two of them; bad is a TypeError.
const odd = "var two = [1, 2], bad = {valueOf: 0, toString: 0}, o = {}; "

package parse

import (
	"ecmacore/api"
	"ecmacore/lex"
)

// Where a slash behind a token begins a pattern: where an expression may begin.
const (
	nowhere    = iota
	here       // right behind the token
	inNextLine // there alone: a semicolon was left out
)

// reader: of a text; what is wrong there it throws. It looks at one token, and has passed those ahead of it.
type reader struct {
	lex  *lex.Reader
	tok  api.Token
	deep int // how deep what is being read lies in what is written
	scope
}

func newReader(s string) *reader {
	r := &reader{lex: lex.NewReader(s)}
	r.pass(here)
	return r
}

// pass goes on to the token behind this one.
func (r *reader) pass(pattern int) {
	t := r.token(r.tok.To, pattern == here)
	if pattern == inNextLine && t.Line && t.Kind == api.TPunct && t.Text[0] == '/' {
		t = r.token(r.tok.To, true)
	}
	r.tok = t
}

func (r *reader) token(at int, slash bool) api.Token {
	t, err := r.lex.Next(at, slash)
	if err != nil {
		panic(err)
	}
	return t
}

// word: the sign or keyword that stands here, or "". A keyword that is written with escapes is none.
func (r *reader) word() string {
	if r.tok.Kind == api.TPunct || r.tok.Kind == api.TKeyword && r.tok.Plain {
		return r.tok.Text
	}
	return ""
}

func (r *reader) is(word string) bool { return r.word() == word }

// expect passes the word that must stand here.
func (r *reader) expect(word string, pattern int) {
	if !r.is(word) {
		r.wrong(api.ErrSyntax)
	}
	r.pass(pattern)
}

// semicolon passes the one that ends a statement, or finds that it may be left out.
func (r *reader) semicolon() {
	if r.is(";") {
		r.pass(here)
	} else if !r.mayEnd() {
		r.wrong(api.ErrSyntax)
	}
}

// mayEnd: may a statement have ended ahead of this token, as if a semicolon stood here?
func (r *reader) mayEnd() bool {
	return r.tok.Line || r.tok.Kind == api.TEnd || r.is("}") || r.is(";")
}

// deeper: something begins at this token that lies one deeper. At the text's end nothing begins, so that the lack of it is told by what looks for it.
func (r *reader) deeper() {
	r.deep++
	if r.deep > api.MaxDeep && r.tok.Kind != api.TEnd {
		r.wrong(api.ErrDeep)
	}
}

// wrong: this token is.
func (r *reader) wrong(e api.Errno) { wrongAt(e, r.tok.From) }

func wrongAt(e api.Errno, at int) { panic(&api.Fault{Err: e, At: at}) }

// node: one that begins at this token.
func (r *reader) node(kind int) *api.Node { return &api.Node{Kind: kind, At: r.tok.From} }

// none: each is its own, since trees are their owner's to change.
func none() *api.Node { return &api.Node{} }

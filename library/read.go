package library

import (
	"strconv"
	"strings"

	"ecmacore/api"
	"ecmacore/heap"
	"ecmacore/machine"
	"ecmacore/num"
	"ecmacore/units"
)

// reader of a JSON text. Things are made as they are read.
type reader struct {
	m    *machine.Machine
	text string
	at   int
}

// whole: the one value that the text is.
func (r *reader) whole() heap.Value {
	v := r.value(0)
	if r.next(); r.at < len(r.text) {
		panic(r.m.SyntaxError())
	}
	return v
}

// here: the byte that is next; 0 behind the last, as no part of a value is one.
func (r *reader) here() byte {
	if r.at < len(r.text) {
		return r.text[r.at]
	}
	return 0
}

// next: likewise, behind white space.
func (r *reader) next() byte {
	for strings.IndexByte("\t\n\r ", r.here()) >= 0 {
		r.at++
	}
	return r.here()
}

// take: one of these bytes, if one is next.
func (r *reader) take(these string) bool {
	is := strings.IndexByte(these, r.here()) >= 0
	if is {
		r.at++
	}
	return is
}

// need: one of these must be next.
func (r *reader) need(these string) {
	if !r.take(these) {
		panic(r.m.SyntaxError())
	}
}

// value that lies in so many others.
func (r *reader) value(deep int) heap.Value {
	first := r.next()
	if strings.IndexByte(`[{"ntf-0123456789`, first) < 0 {
		panic(r.m.SyntaxError())
	}
	if deep >= api.MaxDeep {
		panic(r.m.RangeError())
	}
	switch first {
	case '[':
		return r.array(deep)
	case '{':
		return r.object(deep)
	case '"':
		return r.quoted()
	case 'n':
		return r.word("null", heap.Null())
	case 't':
		return r.word("true", heap.Boolean(true))
	case 'f':
		return r.word("false", heap.Boolean(false))
	}
	return r.number()
}

func (r *reader) word(word string, v heap.Value) heap.Value {
	if !strings.HasPrefix(r.text[r.at:], word) {
		panic(r.m.SyntaxError())
	}
	r.at += len(word)
	return v
}

func (r *reader) number() heap.Value {
	from := r.at
	r.take("-")
	if !r.take("0") {
		r.digits()
	}
	if r.take(".") {
		r.digits()
	}
	if r.take("eE") {
		r.take("+-")
		r.digits()
	}
	return heap.Number(num.Read(r.text[from:r.at]))
}

// digits: at least one.
func (r *reader) digits() {
	const digits = "0123456789"
	r.need(digits)
	for r.take(digits) {
	}
}

// parts stops at each one between brackets.
func (r *reader) parts(end string) func(yield func() bool) {
	return func(yield func() bool) {
		r.at++
		if r.next(); r.take(end) {
			return
		}
		for yield() {
			if r.next(); r.take(end) {
				return
			}
			r.need(",")
		}
	}
}

func (r *reader) array(deep int) heap.Value {
	a := newArray(r.m)
	for range r.parts("]") {
		a.add(r.value(deep + 1))
	}
	return a.value()
}

func (r *reader) object(deep int) heap.Value {
	o := newObject(r.m)
	for range r.parts("}") {
		k := r.key()
		r.next()
		r.need(":")
		r.m.Define(o, k, heap.Whole(r.value(deep+1), heap.AllFlags()))
	}
	return heap.Of(o)
}

func (r *reader) key() heap.Key {
	if r.next() != '"' {
		panic(r.m.SyntaxError())
	}
	return heap.KeyOf(r.quoted().Text)
}

// quoted: a string. What stands between escapes is taken as it is.
func (r *reader) quoted() heap.Value {
	var text []byte
	r.at++
	for from := r.at; ; {
		switch c := r.here(); {
		case c < ' ':
			panic(r.m.SyntaxError())
		case c == '"':
			text = units.Append(text, r.text[from:r.at])
			r.at++
			return heap.String(string(text))
		case c == '\\':
			text = units.Append(text, r.text[from:r.at])
			text = units.Append(text, r.escape())
			from = r.at
		default:
			r.at++
		}
	}
}

// escape: the unit that it stands for.
func (r *reader) escape() string {
	r.at++
	c := r.here()
	r.need(strokeLetters + "/u")
	if c == 'u' {
		return r.coded()
	}
	i := strings.IndexByte(strokeLetters+"/", c)
	return (strokeUnits + "/")[i : i+1]
}

// coded: the unit that four digits tell.
func (r *reader) coded() string {
	digits := r.text[r.at:min(r.at+4, len(r.text))]
	u, err := strconv.ParseUint(digits, 16, 16)
	if err != nil || len(digits) < 4 {
		panic(r.m.SyntaxError())
	}
	r.at += 4
	return units.Text([]uint16{uint16(u)})
}

package ecmacore_test

import (
	"bytes"
	"encoding/json"
	"fmt"
	"math/rand/v2"
	"slices"
	"strconv"
	"strings"
	"testing"

	"ecmacore/api"
	"ecmacore/ecmacore"
	"ecmacore/num"
)

// data makes up JSON texts, with what is written of the values that they are.
type data struct {
	*rand.Rand
	values int // how many there are in what was made up last
}

func (d *data) one(l ...string) string { return l[d.IntN(len(l))] }

func (d *data) space() string { return d.one("", "", "", " ", "\n", "\t", "\r", "  \r\n") }

// number: a text, and how Text of chapter 2 writes it.
func (d *data) number() (string, string) {
	text := d.one("", "-") + d.one("0", "1", "7", "10", "123", "99999999999999999999999")
	if d.IntN(2) == 0 {
		text += "." + d.one("0", "5", "000", "25", "1415926")
	}
	if d.IntN(3) == 0 {
		text += d.one("e", "E") + d.one("", "+", "-") + d.one("0", "1", "05", "21", "400")
	}
	x := num.Read(text)
	if x-x != 0 {
		return text, "null"
	}
	return text, num.Text(x)
}

// quotes: a string as text, with escapes of all sorts, and as it is written.
func (d *data) quotes() (string, string) {
	text, written := `"`, `"`
	for range d.IntN(5) {
		r := rune(d.IntN(128))
		switch d.IntN(6) {
		case 0:
			r = rune(d.IntN(0xd000))
		case 1:
			r = 0x1f600 + rune(d.IntN(50))
		}
		text += d.escaped(r)
		written += plainly(r)
	}
	return text + `"`, written + `"`
}

func (d *data) escaped(r rune) string {
	letter := strings.IndexRune("\b\f\n\r\t\"\\/", r)
	switch {
	case letter >= 0 && d.IntN(2) == 0:
		return `\` + string(`bfnrt"\/`[letter])
	case r > 0xffff && d.IntN(2) == 0:
		r -= 0x10000
		return fmt.Sprintf(`\u%04x\u%04X`, 0xd800+r>>10, 0xdc00+r&0x3ff)
	case r < 32 || r == '"' || r == '\\' || r <= 0xffff && d.IntN(3) == 0:
		return fmt.Sprintf(d.one(`\u%04x`, `\u%04X`), r)
	}
	return string(r)
}

func plainly(r rune) string {
	if i := strings.IndexRune("\b\f\n\r\t\"\\", r); i >= 0 {
		return `\` + string(`bfnrt"\`[i])
	}
	if r < 32 {
		return fmt.Sprintf(`\u%04x`, r)
	}
	return string(r)
}

func (d *data) value(deep int) (string, string) {
	d.values++
	text, written := "", ""
	switch n := d.IntN(9); {
	case deep < 5 && n < 3:
		text, written = d.list(deep)
	case deep < 5 && n < 6:
		text, written = d.object(deep)
	case n == 6:
		text, written = d.number()
	case n == 7:
		text, written = d.quotes()
	default:
		text = d.one("null", "true", "false")
		written = text
	}
	return d.space() + text + d.space(), written
}

func (d *data) list(deep int) (string, string) {
	var texts, parts []string
	for range d.IntN(4) {
		text, part := d.value(deep + 1)
		texts, parts = append(texts, text), append(parts, part)
	}
	if texts == nil {
		return "[" + d.space() + "]", "[]"
	}
	return "[" + strings.Join(texts, ",") + "]", "[" + strings.Join(parts, ",") + "]"
}

// object: a key that comes again keeps where it stood first, with the later value; places stand ahead, rising.
func (d *data) object(deep int) (string, string) {
	var texts, keys []string
	parts, sizes := map[string]string{}, map[string]int{}
	for range d.IntN(5) {
		key, written := d.quotes()
		if d.IntN(2) == 0 {
			key = d.one(`"a"`, `"b"`, `"10"`, `"9"`, `"0"`, `"length"`, `"__proto__"`)
			written = key
		}
		before := d.values
		text, part := d.value(deep + 1)
		texts = append(texts, d.space()+key+d.space()+":"+text)
		if !slices.Contains(keys, written) {
			keys = append(keys, written)
		}
		parts[written] = part
		d.values -= sizes[written] // of the earlier one nothing is left
		sizes[written] = d.values - before + sizes[written]
	}
	if texts == nil {
		return "{" + d.space() + "}", "{}"
	}
	slices.SortStableFunc(keys, func(a, b string) int { return rank(a) - rank(b) })
	members := make([]string, len(keys))
	for i, k := range keys {
		members[i] = k + ":" + parts[k]
	}
	return "{" + strings.Join(texts, ",") + "}", "{" + strings.Join(members, ",") + "}"
}

// rank: by which keys stand.
func rank(key string) int {
	n, err := strconv.Atoi(strings.Trim(key, `"`))
	if digits := strings.Trim(key, `"`); err != nil || digits != strconv.Itoa(n) || n < 0 {
		return 1 << 30
	}
	return n
}

// P110 to P113: texts that are read and written again, with all steps that that takes.
func TestJSONModel(t *testing.T) {
	d, w := &data{Rand: rand.New(rand.NewPCG(31, 10))}, ecmacore.New(3)
	for range 3000 {
		d.values = 0
		source, written := d.value(0)
		blanks := d.one("  ", "\t", "----------", "a")
		var lines bytes.Buffer
		if err := json.Indent(&lines, []byte(written), "", blanks); err != nil {
			t.Fatalf("%s: %v", written, err)
		}
		for _, c := range []struct {
			args, again string
			want        string
			steps       int
		}{
			{"", "", written, d.values},
			{"", ", null, " + text(blanks), lines.String(), d.values},
			{", function (k, v) { return v }", "", written, d.values - 1 + d.values + d.values},
			{"", ", function (k, v) { return v }, 0", written, 2 * d.values},
		} {
			src := "print(JSON.stringify(JSON.parse(" + text(source) + c.args + ")" + c.again + "))"
			r := w.Run(src, api.Limits{Steps: many})
			if r.How != api.Ended || r.Lines[0] != c.want || r.Steps != c.steps {
				t.Fatalf("%s\n got %+v\nwant %q, %d steps", src, r, c.want, c.steps)
			}
		}
	}
}

// P110: a text is refused, or not, as others that know such texts do it.
func TestJSONValid(t *testing.T) {
	d, w := &data{Rand: rand.New(rand.NewPCG(31, 11))}, ecmacore.New(3)
	good := 0
	for range 20000 {
		source, _ := d.value(2)
		l := []rune(source)
		for range d.IntN(3) {
			i := d.IntN(len(l) + 1)
			u := []rune("[]{},:\"\\0e+-.1ntfu/ \n\tx\u00e9\x00\x1f\ufeff")
			switch d.IntN(3) {
			case 0:
				l = slices.Insert(l, i, u[d.IntN(len(u))])
			case 1:
				l = slices.Delete(l, min(i, len(l)), min(i+1, len(l)))
			case 2:
				l = slices.Insert(l, i, l[:i/2]...)
			}
		}
		want := api.Result{How: api.Ended}
		if json.Valid([]byte(string(l))) {
			good++
		} else {
			want = api.Result{How: api.Thrown, Text: syntaxError}
		}
		if r := w.Run("JSON.parse("+text(string(l))+")", api.Limits{}); r.How != want.How || r.Text != want.Text {
			t.Fatalf("%q: %+v", string(l), r)
		}
	}
	if good < 5000 || good > 15000 {
		t.Errorf("%d texts were right", good)
	}
}

package parse_test

import (
	"errors"
	"fmt"
	"math"
	"strconv"
	"strings"
	"testing"

	"ecmacore/api"
	"ecmacore/parse"
)

// kinds: what nodes are called here.
var kinds = map[int]string{
	api.NNone: "-", api.NProgram: "program", api.NBlock: "block", api.NVar: "var", api.NDecl: "decl", api.NEmpty: "empty", api.NExpr: "expr", api.NIf: "if", api.NDo: "do", api.NWhile: "while", api.NFor: "for", api.NForIn: "forin", api.NContinue: "continue", api.NBreak: "break", api.NReturn: "return", api.NSwitch: "switch", api.NCase: "case", api.NThrow: "throw", api.NTry: "try", api.NCatch: "catch", api.NLabel: "label", api.NFunc: "func", api.NParams: "params",
	api.NThis: "this", api.NName: "name", api.NNull: "null", api.NTrue: "true", api.NFalse: "false", api.NNumber: "number", api.NString: "string", api.NRegex: "regex", api.NArray: "array", api.NObject: "object", api.NProp: "prop", api.NGet: "get", api.NSet: "set", api.NLambda: "lambda", api.NDot: "dot", api.NIndex: "index", api.NCall: "call", api.NNew: "new", api.NPost: "post", api.NUnary: "unary", api.NBinary: "binary", api.NAnd: "and", api.NOr: "or", api.NCond: "cond", api.NAssign: "assign", api.NComma: "comma",
}

// told: a tree in one line: kind, text, flags, number; at: also where it is.
func told(n *api.Node, at bool) string {
	var b strings.Builder
	tell(&b, n, at)
	return b.String()
}

func tell(b *strings.Builder, n *api.Node, at bool) {
	if n == nil {
		b.WriteString("nil")
		return
	}
	b.WriteString(kinds[n.Kind])
	if n.Text != "" {
		b.WriteString(strconv.Quote(n.Text))
	}
	if n.Flags != "" {
		b.WriteString("/" + n.Flags)
	}
	if n.Num != 0 || math.Signbit(n.Num) {
		fmt.Fprint(b, "=", n.Num)
	}
	if at && (n.Kind != api.NNone || n.At != 0) {
		b.WriteString("@" + strconv.Itoa(n.At))
	}
	for i, k := range n.Kids {
		b.WriteByte("( "[min(i, 1)])
		tell(b, k, at)
	}
	if len(n.Kids) > 0 {
		b.WriteByte(')')
	}
}

// mustBe asks for a tree with its places.
func mustBe(t *testing.T, s, want string) {
	t.Helper()
	n, err := parse.Program(s)
	if got := told(n, true); err != nil || got != want {
		t.Errorf("Program(%.80q): %v\n got %s\nwant %s", s, err, got, want)
	}
}

// mustBeLike asks that two texts have one tree, but for its places.
func mustBeLike(t *testing.T, s, like string) {
	t.Helper()
	a, err := parse.Program(s)
	b, err2 := parse.Program(like)
	if got, want := told(a, false), told(b, false); err != nil || err2 != nil || got != want {
		t.Errorf("%q: %v, %q: %v\n%s\n%s", s, err, like, err2, got, want)
	}
}

// mustBeRight asks that it is a program.
func mustBeRight(t *testing.T, all ...string) {
	t.Helper()
	for _, s := range all {
		if n, err := parse.Program(s); n == nil || err != nil {
			t.Errorf("Program(%.100q) = %s, %v", s, told(n, true), err)
		}
	}
}

// mustBeWrong asks for the error, and where it is.
func mustBeWrong(t *testing.T, s string, e api.Errno, at int) {
	t.Helper()
	n, err := parse.Program(s)
	f, ok := err.(*api.Fault)
	if n != nil || !ok || *f != (api.Fault{Err: e, At: at}) || !errors.Is(err, e) {
		t.Errorf("Program(%.100q) = %.200s, %v, want %v at %d", s, told(n, true), err, e, at)
	}
}

// marked takes the mark § out of texts; where it stood something is wrong.
func marked(t *testing.T, e api.Errno, all ...string) {
	t.Helper()
	for _, s := range all {
		ahead, behind, ok := strings.Cut(s, "§")
		if !ok {
			t.Errorf("%q has no mark", s)
		}
		mustBeWrong(t, ahead+behind, e, len(ahead))
	}
}

// P40: the bound of bytes comes first.
func TestSize(t *testing.T) {
	full := strings.Repeat(" ", api.MaxSource)
	mustBe(t, full, fmt.Sprint("program@", api.MaxSource))
	mustBeRight(t, strings.Repeat("a;", api.MaxSource/2), full[1:]+"a")
	for _, s := range []string{full + " ", full + "a", "@" + full, "\xff" + full, "1 = 2;" + full, strings.Repeat("(", 2*api.MaxSource)} {
		mustBeWrong(t, s, api.ErrDeep, api.MaxSource)
	}
	mustBeWrong(t, full[1:]+"@", api.ErrSyntax, api.MaxSource-1)
}

// P40: where nodes begin.
func TestPlaces(t *testing.T) {
	mustBe(t, "", "program@0")
	mustBe(t, " /**/\n", "program@6")
	mustBe(t, "//\na", `program@3(expr@3(name"a"@3))`)
	mustBe(t, " ( a ) ", `program@1(expr@1(name"a"@3))`)
	mustBe(t, "((a)+b)*c", `program@0(expr@0(binary"*"@0(binary"+"@1(name"a"@2 name"b"@5) name"c"@8)))`)
	mustBe(t, "(a)(b)", `program@0(expr@0(call@0(name"a"@1 name"b"@4)))`)
	mustBe(t, "(a).b", `program@0(expr@0(dot"b"@0(name"a"@1)))`)
	mustBe(t, "((a))[b]", `program@0(expr@0(index@0(name"a"@2 name"b"@6)))`)
	mustBe(t, "(a)++", `program@0(expr@0(post"++"@0(name"a"@1)))`)
	mustBe(t, "(a)=b", `program@0(expr@0(assign"="@0(name"a"@1 name"b"@4)))`)
	mustBe(t, "(a)?b:c", `program@0(expr@0(cond@0(name"a"@1 name"b"@4 name"c"@6)))`)
	mustBe(t, "(a)&&b", `program@0(expr@0(and@0(name"a"@1 name"b"@5)))`)
	mustBe(t, "(a)||b", `program@0(expr@0(or@0(name"a"@1 name"b"@5)))`)
	mustBe(t, "(a),(b),c", `program@0(expr@0(comma@0(comma@0(name"a"@1 name"b"@5) name"c"@8)))`)
	mustBe(t, "a,(b,c)", `program@0(expr@0(comma@0(name"a"@0 comma@3(name"b"@3 name"c"@5))))`)
	mustBe(t, "- (a)", `program@0(expr@0(unary"-"@0(name"a"@3)))`)
	mustBe(t, "new (a).b(c)", `program@0(expr@0(new@0(dot"b"@4(name"a"@5) name"c"@10)))`)
	mustBe(t, "function  f ( a ) { }", `program@0(func"f"@0(params@12(name"a"@14) block@18))`)
	mustBe(t, "(function ( ) { })", `program@0(expr@0(lambda@1(params@10 block@14)))`)
	mustBe(t, "({ get a ( ) { } , set b ( c ) { } })", `program@0(expr@0(object@1(get"a"@3(lambda@9(params@9 block@13)) set"b"@19(lambda@25(params@25(name"c"@27) block@31)))))`)
	mustBe(t, "for ( ; ; ) ;", "program@0(for@0(- - - empty@12))")
	mustBe(t, "a : b : ;", `program@0(label"a"@0(label"b"@4(empty@8)))`)
}

// P41: each kind, and what lies in it.
func TestKinds(t *testing.T) {
	for s, want := range map[string]string{
		"{}":                    "block@0",
		"{a;;}":                 `block@0(expr@1(name"a"@1) empty@3)`,
		"var a,b=1;":            `var@0(decl"a"@4(-) decl"b"@6(number=1@8))`,
		";":                     "empty@0",
		"if(a)b;":               `if@0(name"a"@3 expr@5(name"b"@5) -)`,
		"if(a)b;else c":         `if@0(name"a"@3 expr@5(name"b"@5) expr@12(name"c"@12))`,
		"do a;while(b)":         `do@0(expr@3(name"a"@3) name"b"@11)`,
		"while(a)b":             `while@0(name"a"@6 expr@8(name"b"@8))`,
		"for(;;)a":              `for@0(- - - expr@7(name"a"@7))`,
		"for(a;b;c)d":           `for@0(name"a"@4 name"b"@6 name"c"@8 expr@10(name"d"@10))`,
		"for(var a=1,b;;);":     `for@0(var@4(decl"a"@8(number=1@10) decl"b"@12(-)) - - empty@16)`,
		"for(var a in b)c":      `forin@0(var@4(decl"a"@8(-)) name"b"@13 expr@15(name"c"@15))`,
		"for(var a=1 in b)c":    `forin@0(var@4(decl"a"@8(number=1@10)) name"b"@15 expr@17(name"c"@17))`,
		"for(a in b)c":          `forin@0(name"a"@4 name"b"@9 expr@11(name"c"@11))`,
		"for(a.b in c);":        `forin@0(dot"b"@4(name"a"@4) name"c"@11 empty@13)`,
		"for((a)[b]in c);":      `forin@0(index@4(name"a"@5 name"b"@8) name"c"@13 empty@15)`,
		"for(;;)continue":       "for@0(- - - continue@7)",
		"for(;;)break":          "for@0(- - - break@7)",
		"a:for(;;)continue a":   `label"a"@0(for@2(- - - continue"a"@9))`,
		"a:break a":             `label"a"@0(break"a"@2)`,
		"switch(a){}":           `switch@0(name"a"@7)`,
		"switch(a){case b:}":    `switch@0(name"a"@7 case@10(name"b"@15))`,
		"switch(a){default:b;}": `switch@0(name"a"@7 case@10(- expr@18(name"b"@18)))`,
		"throw a":               `throw@0(name"a"@6)`,
		"try{}catch(e){}":       `try@0(block@3 catch"e"@5(block@13) -)`,
		"try{}finally{}":        `try@0(block@3 - block@12)`,
		"function f(){}":        `func"f"@0(params@10 block@12)`,
		"function f(){return}":  `func"f"@0(params@10 block@12(return@13(-)))`,
		"function f(){return 1": "",
	} {
		if want == "" {
			marked(t, api.ErrSyntax, s+"§")
			continue
		}
		mustBe(t, s, "program@0("+want+")")
	}
	for s, want := range map[string]string{
		"this": "this@0", "null": "null@0", "true": "true@0", "false": "false@0", "a": `name"a"@0`, `\u0061`: `name"a"@0`, "\u00e9": `name"é"@0`, "1.5": "number=1.5@0", "0x10": "number=16@0", "0": "number@0", "1e999": "number=+Inf@0",
		`"a\x41"`: `string"aA"@0`, "''": "string@0", "/a/gi": `regex"a"/gi@0`, "/[/]\\//": `regex"[/]\\/"@0`, "[]": "array@0", "[a,b]": `array@0(name"a"@1 name"b"@3)`, "({})": "object@1",
		"({a:b})": `object@1(prop"a"@2(name"b"@4))`, "(function f(){})": `lambda"f"@1(params@11 block@13)`, "(function(){})": "lambda@1(params@9 block@11)", "a.b": `dot"b"@0(name"a"@0)`, "a[b]": `index@0(name"a"@0 name"b"@2)`,
		"a()": `call@0(name"a"@0)`, "a(b,c)": `call@0(name"a"@0 name"b"@2 name"c"@4)`, "new a": `new@0(name"a"@4)`, "new a(b,c)": `new@0(name"a"@4 name"b"@6 name"c"@8)`, "a++": `post"++"@0(name"a"@0)`, "a--": `post"--"@0(name"a"@0)`,
		"a&&b": `and@0(name"a"@0 name"b"@3)`, "a||b": `or@0(name"a"@0 name"b"@3)`, "a?b:c": `cond@0(name"a"@0 name"b"@2 name"c"@4)`, "a,b": `comma@0(name"a"@0 name"b"@2)`,
	} {
		mustBe(t, s, "program@0(expr@0("+want+"))")
	}
	for _, op := range strings.Fields("void typeof + - ~ ! ++ --") {
		mustBe(t, op+" a", fmt.Sprintf(`program@0(expr@0(unary"%s"@0(name"a"@%d)))`, op, len(op)+1))
	}
	mustBe(t, "delete a.b", `program@0(expr@0(unary"delete"@0(dot"b"@7(name"a"@7))))`)
	for _, op := range strings.Fields("* / % + - << >> >>> < > <= >= instanceof in == != === !== & ^ |") {
		mustBe(t, "a "+op+" b", fmt.Sprintf(`program@0(expr@0(binary"%s"@0(name"a"@0 name"b"@%d)))`, op, len(op)+3))
	}
	for _, op := range strings.Fields("= *= /= %= += -= <<= >>= >>>= &= ^= |=") {
		mustBe(t, "a"+op+"b", fmt.Sprintf(`program@0(expr@0(assign"%s"@0(name"a"@0 name"b"@%d)))`, op, len(op)+1))
	}
}

// P42: what is a statement, and of what it consists.
func TestStatements(t *testing.T) {
	mustBeRight(t, "function f(){function g(){}function h(){}}", "function f(){}function f(){}", "a:{b:{break a}}", "a:for(;;)b:for(;;){continue a;break b;continue;break}", "eval:arguments:;", "if(a);else if(b);else;", "switch(a){case 1:case 2:b;break;default:c;case 3:}", "var undefined,get,set,of,let$", "(function(){return})", "'use strict';0")
	mustBe(t, "{}(a)", `program@0(block@0 expr@2(name"a"@3))`)
	mustBe(t, "{a:b}", `program@0(block@0(label"a"@1(expr@3(name"b"@3))))`)
	mustBe(t, "if(a)if(b);else;", `program@0(if@0(name"a"@3 if@5(name"b"@8 empty@10 empty@15) -))`)
	mustBe(t, "if(a)while(b)if(c);else;", `program@0(if@0(name"a"@3 while@5(name"b"@11 if@13(name"c"@16 empty@18 empty@23)) -))`)
	mustBe(t, "if(a){if(b);}else;", `program@0(if@0(name"a"@3 block@5(if@6(name"b"@9 empty@11 -)) empty@17))`)
	mustBeLike(t, "a: b", "a:b;")
	mustBeLike(t, "a ? b : c", "(a)?(b):(c)")
	mustBeLike(t, "(function(){}())", "((function(){})())")
	mustBeLike(t, "for({}.a in b);", "for(({}).a in b);")
	mustBeLike(t, "for(function(){};;);", "for((function(){});;);")
	marked(t, api.ErrSyntax,
		"{§", "§}", "{}§}", "var§", "var §1", "var a §b", "var a,§", "var a,§;", "var a=§;", "if §a", "if(§)", "if(a§", "if(a§;", "if(a)§", "if(a)§}", "§else", "if(a);else§", "do§", "do;§", "do;§a", "do;while§", "do;while(§)", "do;while(a§", "while§", "while(§)", "while(a)§",
		"for§", "for §a", "for(§", "for(§)", "for(;§)", "for(;;§", "for(;;)§", "for(a§)", "for(a;§)", "for(a;b§)", "for(a;b;c§;)", "for(var §;;)", "for(var a§)", "for(a in§)", "for(a in §)", "for(a in b§;c;d)", "for(a in b)§", "for(§in a)",
		"switch§", "switch(§)", "switch(a)§", "switch(a)§;", "switch(a){§a", "switch(a){case§", "switch(a){case §:", "switch(a){case b§}", "switch(a){default §a", "switch(a){default:§", "§case", "§default:", "throw§", "throw §;", "try§", "try §;", "try{}catch§{}", "try{}catch(§)", "try{}catch(§1)", "try{}catch(a§,b)", "try{}catch(a)§;", "try{}finally §;", "try{}finally{}§finally{}", "try{}finally{}§catch(a){}", "§catch", "§finally",
		"function§", "function §1(){}", "function f§", "function f§{}", "function f(§", "function f(a§", "function f(a §b){}", "function f(§1){}", "function f()§", "function f()§;", "function f(){§", "function f(){}§}", "a:§", "a:§}", "a:b:§", "§debugger", "§class a{}", "§let a", "§import a", "§export a", "§const a=1", "§enum", "§yield", "§:", "(a)§:b", "1§:", "'a'§:", "this§:a",
	)
}

// P42: in the first part of a for.
func TestForIn(t *testing.T) {
	mustBeRight(t, "for(var a=(b in c);;);", "for(var a=[b in c];;);", "for(var a={b:c in d};;);", "for(var a=b[c in d];;);", "for(var a=b(c in d);;);", "for(var a=new b(c in d);;);", "for(var a=function(){b in c;for(d in e);};;);", "for(var a={get b(){return c in d}};;);", "for(a?b in c:d;;);", "for(var a=b?c in d:e;;);", "for(;a in b;c in d);", "for(a in b in c);", "for(a in b,c);", "for((a in b);;);", "for(a[b in c]in d);", "for((a)in b);", "for(((a.b))in b);", "for(a()[b]in c);", "for(new a().b in c);", "for(var a=1 in b in c);", "for(var a=b,c=d;;);", "for(this.a in b);")
	mustBe(t, "for(var a=b?c in d:e in f);", `program@0(forin@0(var@4(decl"a"@8(cond@10(name"b"@10 binary"in"@12(name"c"@12 name"d"@17) name"e"@19))) name"f"@24 empty@26))`)
	marked(t, api.ErrSyntax, "for(a+b §in c);", "for(a=b §in c);", "for(a,b §in c);", "for(a() §in b);", "for(new a §in b);", "for(1 §in a);", "for('a' §in a);", "for(this §in a);", "for(a++ §in b);", "for(-a §in b);", "for({} §in a);", "for([] §in a);", "for(function(){} §in a);", "for((a,b) §in c);", "for((a in b) §in c);", "for(a?b:c §in d);", "for(var a,b §in c);", "for(var a=1,b §in c);", "for(var a=b in c§;;);", "for(var a §of b);", "for(a §of b);", "for(a=b?c:d §in e;;);", "for(!a §in b;;);", "for(a||b §in c;;);", "for(true §in a);", "for(/a/ §in a);")
	marked(t, api.ErrEarly, "for(§eval in a);", "for(§arguments in a);", "for(§(eval)in a);", "for( §((arguments)) in a);", "for(var §eval in a);", "for(var §arguments=1 in a);", "for(§1=a in b);")
}

// P43: semicolons that are left out.
func TestSemicolons(t *testing.T) {
	for _, c := range [][2]string{
		{"a", "a;"}, {"{a}", "{a;}"}, {"a\nb", "a;b;"}, {"a\rb", "a;b"}, {"a\u2028b", "a;b"}, {"a/*\n*/b", "a;b"}, {"a//\nb", "a;b"}, {"a\n;b", "a;b"}, {"a\n\n;", "a;"}, {"var a\nb", "var a;b"}, {"var a=1\nb", "var a=1;b"}, {"{var a}", "{var a;}"},
		{"do a;while(b)c", "do a;while(b);c"}, {"do a\nwhile(b)c", "do a;while(b);c"}, {"do;while(a)\n;b", "do;while(a);b"}, {"{do;while(a)}", "{do;while(a);}"}, {"do;while(a)do;while(b)", "do;while(a);do;while(b);"}, {"do;while(a)/b/", "do;while(a);/b/;"}, {"do{}while(a)(b)", "do{}while(a);(b)"},
		{"for(;;){continue}", "for(;;){continue;}"}, {"for(;;){break\na}", "for(;;){break;a;}"}, {"a:for(;;){continue\na}", "a:for(;;){continue;a;}"}, {"a:for(;;){continue a\nb}", "a:for(;;){continue a;b;}"}, {"a:for(;;)break\na", "a:for(;;)break;a"}, {"a:for(;;)break/*\n*/a", "a:for(;;)break;a"},
		{"(function(){return\na})", "(function(){return;a;})"}, {"(function(){return a\nb})", "(function(){return a;b;})"}, {"(function(){return})", "(function(){return;})"}, {"(function(){return\n})", "(function(){return;})"}, {"(function(){return;})", "(function(){return\n})"},
		{"throw a\nb", "throw a;b"}, {"a\n++\nb", "a;++b"}, {"a\n++b", "a;++b"}, {"a\n--b", "a;--b"}, {"a=b\n++c", "a=b;++c"}, {"a++\nb", "a++;b"}, {"a++\n++b", "a++;++b"}, {"if(a)b\nelse c", "if(a)b;else c;"},
		{"a\n(b)", "a(b)"}, {"a\n[b]", "a[b]"}, {"a\n.b", "a.b"}, {"a\n+b", "a+b"}, {"a\n/b/c", "a/b/c"}, {"a=b\n?c:d", "a=b?c:d"}, {"a\n,b", "a,b"}, {"a\n=b", "a=b"}, {"a\nin b", "a in b"}, {"var a\n=b", "var a=b"}, {"var a\n,b", "var a,b"}, {"for(var a\nin b);", "for(var a in b);"},
		{"var a\n/b/g", "var a;/b/g"}, {"var a,b\n/=b/", "var a,b;/=b/"}, {"for(;;){break\n/a/g}", "for(;;){break;/a/g}"}, {"a:for(;;){continue a\n/a/g}", "a:for(;;){continue a;/a/g}"}, {"var a=b\n/c/g", "var a=b/c/g"},
		{"function f(){}a", "function f(){}\na"}, {"{}a", "{}\na"}, {"switch(a){}b", "switch(a){}\nb"}, {"try{}finally{}a", "try{}finally{}\na"},
	} {
		mustBeLike(t, c[0], c[1])
	}
	marked(t, api.ErrSyntax, "a §b", "{a §b}", "a §'b'", "a §{}", "a §if(b);", "var a §b", "var a=1 §b", "var a §/b/", "throw a §b", "throw\n§a", "throw\n§;", "throw\r\n§/a/", "throw\n§", "throw/*\n*/§a", "throw//\n§a", "for(;;)break §1", "for(;;)break §if", "for(;;)continue §'a'", "a:for(;;)break a §b", "for(;;)break §/a/", "if(a)b §else c", "do a §while(b)", "(function(){return a §b})", "a++ §b", "a ++ §++", "a\n++§", "for(a\n§b;;);", "for(a;b\n§)c", "if(a\n§b);", "a §a:b", "1 §2", "if(a)\n§", "while(a)\n§", "a = \n§", "for(;\n§)")
}

// P44: operators, the weakest first.
func TestStrength(t *testing.T) {
	rows := []string{",", "=", "?", "||", "&&", "|", "^", "&", "== != === !==", "< > <= >= instanceof in", "<< >> >>>", "+ -", "* / %"}
	for i, low := range rows[3:] {
		for _, a := range strings.Fields(low) {
			for _, b := range strings.Fields(low) {
				mustBeLike(t, "x "+a+" y "+b+" z", "(x "+a+" y) "+b+" z")
			}
			for _, high := range rows[3+i+1:] {
				for _, b := range strings.Fields(high) {
					mustBeLike(t, "x "+a+" y "+b+" z", "x "+a+" (y "+b+" z)")
					mustBeLike(t, "x "+b+" y "+a+" z", "(x "+b+" y) "+a+" z")
				}
			}
			mustBeLike(t, "x "+a+" y ? z : w", "(x "+a+" y) ? z : w")
			mustBeLike(t, "x ? y : z "+a+" w", "x ? y : (z "+a+" w)")
			mustBeLike(t, "x = y "+a+" z", "x = (y "+a+" z)")
			mustBeLike(t, "x "+a+" y, z", "(x "+a+" y), z")
			mustBeLike(t, "typeof x "+a+" - y", "(typeof x) "+a+" (- y)")
		}
	}
	for _, op := range strings.Fields("= *= /= %= += -= <<= >>= >>>= &= ^= |=") {
		mustBeLike(t, "x "+op+" y "+op+" z", "x "+op+" (y "+op+" z)")
		mustBeLike(t, "x "+op+" y, z", "(x "+op+" y), z")
		mustBeLike(t, "x "+op+" y ? z : w", "x "+op+" (y ? z : w)")
		mustBeLike(t, "x ? y "+op+" z : z "+op+" w", "x ? (y "+op+" z) : (z "+op+" w)")
	}
	for _, c := range [][2]string{
		{"a,b,c", "(a,b),c"}, {"a?b:c?d:e", "a?b:(c?d:e)"}, {"a?b?c:d:e", "a?(b?c:d):e"}, {"a?b=c:d=e", "a?(b=c):(d=e)"}, {"a-b-c", "(a-b)-c"}, {"a||b||c", "(a||b)||c"}, {"a?(b,c):d", "a?(b,c):(d)"},
		{"!a.b", "!(a.b)"}, {"-a++", "-(a++)"}, {"-a()", "-(a())"}, {"typeof new a", "typeof(new a)"}, {"- - a", "-(-a)"}, {"- --a", "-(--a)"}, {"a- -b", "a-(-b)"}, {"a+ ++b", "a+(++b)"}, {"a++ +b", "(a++)+b"}, {"a+++b", "(a++)+b"}, {"void delete a.b", "void(delete(a.b))"}, {"++a.b", "++(a.b)"}, {"a.b++", "(a.b)++"},
		{"a.b.c", "(a.b).c"}, {"a.b[c](d).e", "(((a.b)[c])(d)).e"}, {"a()()", "(a())()"},
		{"new a.b(c)", "new (a.b)(c)"}, {"new a[b](c)", "new (a[b])(c)"}, {"new a", "new a()"}, {"new a.b", "new (a.b)()"}, {"new a().b", "(new a()).b"}, {"new a()()", "(new a())()"}, {"new new a", "new (new a())()"}, {"new new a(b)", "new (new a(b))()"}, {"new new a(b)(c)", "new (new a(b))(c)"}, {"new new a(b)(c)(d)", "(new (new a(b))(c))(d)"}, {"new a(b).c(d)", "((new a(b)).c)(d)"}, {"new (a())()", "new (a())"}, {"new (a().b)", "new (a()).b"}, {"new (a)()", "new a"}, {"new function(){}(a)", "new (function(){})(a)"}, {"new this.a[b]", "new (this.a[b])"}, {"new {}.a", "new ({}.a)"}, {"new 1", "new (1)()"},
	} {
		mustBeLike(t, c[0], c[1])
	}
	mustBe(t, "new (a())()", `program@0(expr@0(new@0(call@5(name"a"@5))))`)
	mustBe(t, "new a.b(c)(d)", `program@0(expr@0(call@0(new@0(dot"b"@4(name"a"@4) name"c"@8) name"d"@11)))`)
}

// P44: what expressions are made of.
func TestExpressions(t *testing.T) {
	mustBe(t, "[,]", "program@0(expr@0(array@0(-)))")
	mustBe(t, "[,,]", "program@0(expr@0(array@0(- -)))")
	mustBe(t, "[a,]", `program@0(expr@0(array@0(name"a"@1)))`)
	mustBe(t, "[a,,b,,]", `program@0(expr@0(array@0(name"a"@1 - name"b"@4 -)))`)
	mustBe(t, "[,a=b]", `program@0(expr@0(array@0(- assign"="@2(name"a"@2 name"b"@4))))`)
	mustBe(t, "({a:1,})", `program@0(expr@0(object@1(prop"a"@2(number=1@4))))`)
	for key, text := range map[string]string{"a": "a", "if": "if", "null": "null", "get": "get", "set": "set", `\u0061`: "a", `i\u0066`: "if", "'a b'": "a b", `"\x41"`: "A", "''": "", "1": "1", "0x10": "16", "1.50": "1.5", ".5": "0.5", "1e21": "1e+21", "1e400": "Infinity", "0.0000001": "1e-7", `g\u0065t`: "get"} {
		want := "prop"
		if text != "" {
			want += fmt.Sprintf("%q", text)
		}
		mustBe(t, "({"+key+":a})", fmt.Sprintf(`program@0(expr@0(object@1(%s@2(name"a"@%d))))`, want, len(key)+3))
		mustBe(t, "({get "+key+"(){}})", fmt.Sprintf(`program@0(expr@0(object@1(%s@2(lambda@%d(params@%[2]d block@%[3]d)))))`, strings.Replace(want, "prop", "get", 1), len(key)+6, len(key)+8))
		mustBe(t, "({set "+key+"(a){}})", fmt.Sprintf(`program@0(expr@0(object@1(%s@2(lambda@%d(params@%[2]d(name"a"@%d) block@%d)))))`, strings.Replace(want, "prop", "set", 1), len(key)+6, len(key)+7, len(key)+9))
	}
	mustBeRight(t, "a.if.null.get.class", "a.\\u0069f", "a./**/in", "({get:1,set:2})", "({get get(){},set get(a){},get set(){},set set(a){}})", "({get if(){}})", "({a:1,b:2,'c':3,4:5})", "a(b=c,d?e:f)", "[a=b,c?d:e]", "a[b,c]", "(a,b)", "({a:b,c:d=e})", "({a:function(){}})", "(function eval$(){})")
	marked(t, api.ErrSyntax,
		"a =§", "a +§", "a + §;", "(§", "(§)", "(a§", "(a§;)", "(a,§)", "a(§", "a(b§", "a(b §c)", "a(§,)", "a(b,§)", "a(b,§,c)", "[§", "[a§", "[a §b]", "[a,§", "a[§]", "a[b§", "a[b §c]", "a.§", "a§.1", "a.§'b'", "a.§(b)", "a. §[b]", "a ? §", "a ? b§", "a ? b §, c : d", "a ? §: b", "a ? b : §", "a,§", "a,§;", "-§", "typeof§", "delete§", "new§", "new §-a", "new §++a", "new §;", "new a.§", "++§", "++§;", "a =§> b", "a §!b", "a §~b", "§*a", "§=a", "§.a", "§,a", "§?a:b", "§)", "§]", "a§]", "a§)", "§in a", "§instanceof a", "a in§", "§&&a", "a&&§", "a*§*b", "a §@", "§#", "§`a`",
		"({§", "({§,})", "({a§})", "({a§,})", "({a:§})", "({a:1 §b:2})", "({a:1,§,})", "({§[a]:1})", "({§(a):1})", "({a§(){}})", "({get§})", "({get§,})", "({get §[a](){}})", "({get§(){}})", "({get a§:1})", "({get a§})", "({get a()§})", "({set§})", "({set a§:1})", "({set a(b)§;})", "({g\\u0065t §a(){}})", "({'get' §a(){}})", "({s\\u0065t §a(b){}})", "({if§})", "({1§})", "({§-1:a})", "({§/a/:1})", "({a:1§;})",
		"(function §1(){})", "(function§)", "(function f§)", "(function(){}§", "(function(){§)",
	)
}

// P44: where a pattern begins.
func TestPatterns(t *testing.T) {
	for _, s := range []string{"/a/", "(/a/)", "[/a/]", "[,/a/]", "a=/a/", "a+=/a/", "a+/a/", "a?/a/:/b/", "a,/a/", "a(/a/)", "a(b,/a/)", "a[/a/]", "({a:/a/})", "-/a/", "typeof/a/", "delete/a/", "new/a/", "a in/b/", "a instanceof/b/", "!/a/", "a||/b/", "a/ /b/", "{/a/}", "{}/a/", ";/a/", "a;/a/", "a:/a/", "if(a)/a/", "if(a);else/a/", "if(a)/b/;else/a/", "do/a/;while(b)", "do;while(/a/)", "do;while(a)/a/", "while(/a/);", "while(a)/a/", "for(/a/;/b/;/c/)/d/", "for(a in/b/)/c/", "for(var a=/b/;;);", "switch(/a/){case/b/:/c/;default:/d/}/e/", "throw/a/", "try{/a/}catch(e){/a/}/b/", "try{}finally{}/a/", "function f(){/a/}/b/", "function f(){return/a/}", "function f(){return\n/a/}", "/=/", "a=/=/", "/=a/g", "/a/.b", "/a/[b]", "/a/()", "/a//b", "/a/ /b", "/a/\n/b/c", "if(a){}/b/", "var a\n/b/", "a\n/b/c"} {
		mustBeRight(t, s)
	}
	for _, c := range [][2]string{{"a/b/c", "(a/b)/c"}, {"a/=b/c", "a/=(b/c)"}, {"(a)/b/c", "((a)/b)/c"}, {"a[b]/c/d", "((a[b])/c)/d"}, {"a()/b/c", "((a())/b)/c"}, {"a++/b/c", "((a++)/b)/c"}, {"({})/a/b", "(({})/a)/b"}, {"a=function(){}/b/c", "a=(((function(){})/b)/c)"}, {"a={}/b/c", "a=((({})/b)/c)"}, {"a=[]/b/c", "a=(([]/b)/c)"}, {"this/a/b", "(this/a)/b"}, {"1/a/b", "(1/a)/b"}, {"'a'/b/c", "('a'/b)/c"}, {"null/a/b", "(null/a)/b"}, {"a.if/b/c", "((a.if)/b)/c"}, {"a.return/b/c", "((a.return)/b)/c"}, {"/a//b/c", "(/a//b)/c"}, {"a\n/b/c", "(a/b)/c"}, {"a++\n/b/c", "((a++)/b)/c"}} {
		mustBeLike(t, c[0], c[1])
	}
	marked(t, api.ErrSyntax, "§/a", "a=§/", "{}§/a", "a/§", "a/b/§", "(a)/b/§", "§/", "§/=", "§/[/]", "({§/a/:1})", "a.§/b/", "var §/a/", "function §/a/(){}", "try{}§/a/", "switch(a)§/b/", "switch(a){§/b/}", "a ? b : §/c", "/a/ §a", "/a/g /b/§")
	marked(t, api.ErrEarly, "§/(/", "§/a/y", "§/a/gg", "a=§/)/", "§/a{2,1}/", "§/+/", "§/\\1/", "[/a/,§/[b-a]/]", "a(§/a/u)", "a+§/b**/", "§/a/G", "§/a/\u00e9", "§/"+strings.Repeat("(", 120)+strings.Repeat(")", 120)+"/", "§/"+strings.Repeat("a", 4097)+"/")
	mustBeRight(t, "/"+strings.Repeat("(", 119)+strings.Repeat(")", 119)+"/", "/"+strings.Repeat("a", 4096)+"/")
}

// P44: where one begins, what is wrong within it is found; where none can, the slash itself is wrong.
func TestPatternPlaces(t *testing.T) {
	for _, s := range []string{"", "(", "[", "[,", "[a,", "a=", "a+", "a?", "a?b:", "a,", "a(", "a(b,", "a[", "({a:", "-", "++", "delete ", "new ", "a in ", "a||", "{", "{}", ";", "a;", "a:", "if(", "if(a)", "if(a);else ", "do ", "do;while(", "do;while(a)", "do;while(a);", "while(", "while(a)", "for(", "for(;", "for(;;", "for(;;)", "for(a in ", "for(a in b)", "for(var a=", "switch(", "switch(a){case ", "switch(a){case b:", "switch(a){default:", "switch(a){}", "throw ", "try{", "try{}catch(e){", "try{}catch(e){}", "try{}finally{", "try{}finally{}", "function f(){", "function f(){}", "function f(){return ", "function f(){return\n", "var a\n", "var a,b\n", "var a;", "for(;;){break\n", "for(;;){continue;", "a:for(;;){break a\n", "({get a(){"} {
		marked(t, api.ErrSyntax, s+"/a§\xff/", s+"§/a\n/")
	}
	for _, s := range []string{"var ", "var a ", "var a, ", "var\n", "if ", "if\n", "do;while ", "while ", "for ", "for(var ", "for(var a ", "for(var a\n", "for(var a,", "switch ", "switch(a)", "switch(a){", "switch(a){default ", "for(;;)break ", "for(;;)continue ", "a:for(;;)break a ", "try ", "try{}", "try{}\n", "try{}catch ", "try{}catch(", "try{}catch(e ", "try{}catch(e)", "try{}finally ", "function ", "function f ", "function f(", "function f(a ", "function f(a,", "function f()", "a.", "({", "({a", "({a:1,", "({get ", "({get a", "({get a(", "({get a()", "({get a(){}", "({set a(b", "({set a(b)", "(function ", "(function f ", "(function(", "(function()"} {
		marked(t, api.ErrSyntax, s+"§/a\xff/")
	}
	for _, s := range []string{"a", "a\n", "for(a", "(a)", "a()", "a[b]", "[]", "({})", "({a:1})", "(function(){})", "a=function(){}", "a={}", "({get a(){}})", "a=[]", "a++", "a++\n", "1", "'a'", "/a/", "this", "null", "true", "false", "a.b", "a.if", "new a", "new a()", "a=b", "throw a", "var a=b\n", "-a", "function f(){return a", "if(a)b", "a,b", "a?b:c"} {
		marked(t, api.ErrSyntax, s+"/a/§", s+"/a/b/§\xff")
	}
}

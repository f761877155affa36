package parse_test

import (
	"errors"
	"math"
	"strings"
	"testing"

	"ecmacore/api"
	"ecmacore/parse"
)

// node: by hand.
func node(kind int, text string, kids ...*api.Node) *api.Node {
	return &api.Node{Kind: kind, Text: text, Kids: kids}
}

func name(s string) *api.Node { return node(api.NName, s) }

func number(x float64) *api.Node { return &api.Node{Kind: api.NNumber, Num: x} }

func none() *api.Node { return &api.Node{} }

// program: of an expression.
func program(n *api.Node) *api.Node {
	return node(api.NProgram, "", node(api.NExpr, "", n))
}

// mustWrite asks for a text whose tree is that one, and that it is changed by nothing.
func mustWrite(t *testing.T, n *api.Node) string {
	t.Helper()
	was := told(n, true)
	s, err := parse.Text(n)
	if err != nil {
		t.Errorf("Text(%.300s): %v", was, err)
		return ""
	}
	if now := told(n, true); now != was {
		t.Errorf("Text changed %.300s to %.300s", was, now)
	}
	m, err := parse.Program(s)
	if got, want := told(m, false), told(n, false); err != nil || got != want {
		t.Errorf("Text: %.300q, %v\n got %.1000s\nwant %.1000s", s, err, got, want)
		return s
	}
	if again, err := parse.Text(m); err != nil || again != s {
		t.Errorf("Text: %.300q, and again %.300q, %v", s, again, err)
	}
	return s
}

func mustNotWrite(t *testing.T, e api.Errno, all ...*api.Node) {
	t.Helper()
	for _, n := range all {
		if s, err := parse.Text(n); s != "" || err != e || !errors.Is(err, e) {
			t.Errorf("Text(%.300s) = %.100q, %v, want %v", short(n), s, err, e)
		}
	}
}

// short: a tree may lie in itself.
func short(n *api.Node) string {
	if n == nil {
		return "nil"
	}
	s := kinds[n.Kind] + n.Text
	for _, k := range n.Kids[:min(len(n.Kids), 3)] {
		if k != nil {
			s += " " + kinds[k.Kind] + k.Text
		}
	}
	return s
}

func mustWriteAll(t *testing.T, all ...string) {
	t.Helper()
	for _, s := range all {
		n, err := parse.Program(s)
		if err != nil {
			t.Errorf("Program(%q): %v", s, err)
			continue
		}
		mustWrite(t, n)
	}
}

// P50: statements.
func TestWriteStatements(t *testing.T) {
	mustWriteAll(t, "", ";", ";;", "{}", "{{};}", "a", "a;b", "var a", "var a=1,b,c=(d,e)", "if(a)b", "if(a)b;else c", "if(a){if(b)c}else d", "if(a)if(b)c;else d", "if(a);else if(b);else;", "if(a);else/b/", "if(a);else'b'", "do a;while(b)", "do{}while(b)c", "do;while(b)", "do do;while(a);while(b)", "while(a)b", "while(a);", "for(;;);", "for(a;b;c)d", "for(var a=1,b;;);", "for(var a in b);", "for(var a=1 in b);", "for(a in b);", "for(a.b in c);", "for(a[b]in c);", "for(a[b in c]in(d in e));", "for(/a/.b in c);", "for(1..a in b);",
		"for(var a=(b in c),d=[e in f];;);", "for((a in b);;);", "for((a in b)+c;;);", "for(a=(b in c);;);", "for(a?b in c:(d in e);;);", "for(!(a in b);;);", "for(a,(b in c);;);", "for(x=function(){a in b};;);", "for(a(b in c);a in b;a in b);", "for({}.a;;);", "for(function(){};;);", "for({a:b in c}.a in d);", "for(var a=(b in c)in d);", "for((a in b)?c:d;;);", "for(var a=b?c in d:e;;);", "for(var a={get b(){return c in d}},e=(f in g);;);",
		"for(;;)continue", "for(;;)break", "a:for(;;){continue a;break a}", "a:b:c:;", "function f(){return}", "function f(){return a,b}", "function f(){return/a/}", "function f(a,b){function g(){}}", "switch(a){}", "switch(a){case 1:case 2:b;default:c;case(d,e):}", "switch(a,b){case/a/:}", "throw a", "throw a,b", "throw/a/", "throw{}", "throw function(){}", "try{}catch(e){}", "try{a}finally{b}", "try{}catch(e){a}finally{}", "a:{}", "a:if(b);", "eval:arguments:;",
		"({})", "({}).a", "({}.a)()", "({})+1", "({})?a:b", "({}),a", "({}).a=1", "({}).a++", "(function(){})", "(function(){})()", "(function(){}).a", "(function f(){})+1", "a,{}", "-{}", "new function(){}", "!function(){}()", "if(a)({})", "a:(function(){})", "if(a);else({})", "[{}]", "a={}")
}

// P50: expressions, with brackets where they are needed.
func TestWriteExpressions(t *testing.T) {
	ops := strings.Fields("|| && | ^ & == != === !== < > <= >= instanceof in << >> >>> + - * / %")
	for _, a := range ops {
		for _, b := range ops {
			mustWriteAll(t, "x "+a+" y "+b+" z", "(x "+a+" y) "+b+" z", "x "+a+" (y "+b+" z)")
		}
		if a != "in" {
			mustWriteAll(t, "for(x "+a+" (y in z);;);", "for(var x = (y in z) "+a+" (z in y);;);")
		}
		mustWriteAll(t, "(x,y) "+a+" (z,w)", "(x=y) "+a+" (z=w)", "(x?y:z) "+a+" (x?y:z)", "-x "+a+" -y", "+x "+a+" +y", "x++ "+a+" ++y", "x-- "+a+" --y", "x "+a+" typeof y", "(x "+a+" y)()", "(x "+a+" y).z", "-(x "+a+" y)", "typeof(x "+a+" y)", "new (x "+a+" y)", "x = y "+a+" z", "x ? y "+a+" z : w "+a+" v", "(x "+a+" y) ? z : w", "[x "+a+" y, z]", "/a/ "+a+" /b/", "/a/g "+a+" /b/i", "1 "+a+" 2", "1.5 "+a+" .5", "'a' "+a+" 'b'", "{} x "+a+" {}", "x "+a+" function(){}", "x "+a+" [] "+a+" {}", "x "+a+" new y", "x "+a+" y()", "x[y "+a+" z]", "x(y "+a+" z)", "for((x "+a+" (y in z));;);", "var x = y "+a+" z, w", "for(var x = ((y in z) "+a+" y);;);")
	}
	for _, op := range strings.Fields("= *= /= %= += -= <<= >>= >>>= &= ^= |=") {
		mustWriteAll(t, "a"+op+"b", "a.b"+op+"c"+op+"d", "a"+op+"(b,c)", "a"+op+"/b/", "(a"+op+"b)+c", "a"+op+"-b", "a"+op+"+b", "a"+op+"++b", "a"+op+"b?c:d", "(a"+op+"b)?c"+op+"d:e"+op+"f", "a(b"+op+"c)", "(a"+op+"b)()", "(a"+op+"b).c", "-(a"+op+"b)", "new(a"+op+"b)")
	}
	mustWriteAll(t, "- -a", "-(-a)", "+ +a", "- --a", "+ ++a", "-+a", "+-a", "- -1", "!(!a)", "~-a", "a- -b", "a- --b", "a-- -b", "a-- - --b", "a+ +b", "a++ + ++b", "a+ ++b", "a-(-b)", "typeof typeof a", "typeof(a)", "typeof(a,b)", "void 0", "delete a.b", "delete a[b]", "delete(a,b)", "delete(-a)", "-(a++)", "(a.b)++", "a()[b]++", "-(a?b:c)", "!(a in b)", "!(a instanceof b)", "!(a=b)",
		"a,b,c", "a,(b,c)", "(a,b),c", "a?b:c?d:e", "(a?b:c)?d:e", "a?b?c:d:e", "a?(b,c):(d,e)", "(a,b)?c:d", "a?b=c:d=e", "(a=b)?c:d", "a=b=c", "a=(b,c)",
		"a.b.c", "a.if", "a[b]", "a[b,c]", "a()", "a(b,c)", "a((b,c))", "a(b=c,d?e:f)", "a()()", "a().b[c](d)", "(a,b)()", "(a=b)()", "(-a)()", "(a++).b", "(a?b:c).d", "(a+b)[c]", "1..a", "1.5.a", "1e21.a", "0.1.a", "(1).a()", "1[a]", "1()", "0..a.b", "(-1).a", "-1..a", "'a'.b", "/a/.b", "/a/g.b", "[].a", "null.a", "this.a", "1..in in a", "1 in a", "0x10.a",
		"new a", "new a()", "new a(b,c)", "new a.b", "new a.b(c).d", "new a().b", "(new a).b", "new(a())", "new(a())()", "new(a().b)", "new(a()).b", "new(a.b().c)(d)", "new(a()[b])", "new(a[b()])", "new a[b()]", "new(a,b)", "new(-a)", "new(new a)", "new new a(b)(c)", "new(new a(b))", "new(new a().b)(c)", "(new a)()", "new a()()", "new(function(){})", "new function(){}(a)", "new(a())(b)(c)", "new 1..a", "new(1)", "new{}", "new[]", "new/a/", "new this", "new(function(){return a()}())", "new(f()())", "new(a().b.c[d]())",
		"[]", "[,]", "[,,]", "[a]", "[a,]", "[a,,]", "[,a]", "[a,,b]", "[,,a,,]", "[(a,b)]", "[a=b,c]", "[[],[,]]",
		"({})", "({a:1})", "({a:1,b:2})", "({'a b':1,'':2,1:3,'1.5':4,1e21:5,if:6,'if ':7})", "({get:1,set:2})", "({get a(){},set a(b){}})", "({get get(){},set set(set){}})", "({get 1(){},get 'a b'(){},set if(a){}})", "({a:(b,c),d:e=f})", "({a:function(){}})", "({a:{}})", "({'\\u2028':1,'\\ud800':2,\u00e9:3,'\\'':4})", "(function f(a,b){a;b})", "(function(){return})", "\u00e9+\u00e9\u00e9", "\U00010400 in \U00010401", "$ in _")
}

// P50: what tokens stand for.
func TestWriteTokens(t *testing.T) {
	for _, x := range []float64{0, 1, 1.5, 0.1, 1e20, 1e21, 123456789012345680000, 1e-6, 1e-7, 5e-324, math.MaxFloat64, math.Inf(1), 1 << 53, 0.1 + 0.2, math.Nextafter(1, 2)} {
		mustWrite(t, program(number(x)))
		mustWrite(t, program(node(api.NDot, "a", number(x))))
		mustWrite(t, program(node(api.NBinary, "in", number(x), number(x))))
		mustWrite(t, program(node(api.NUnary, "-", number(x))))
	}
	mustNotWrite(t, api.ErrSyntax, program(number(math.NaN())), program(number(-1)), program(number(math.Copysign(0, -1))), program(number(math.Inf(-1))))
	all := ""
	for c := rune(0); c < 0x300; c++ {
		all += string(c)
	}
	for _, s := range []string{"", "a", "'", `"`, `\`, `\\`, `'"'`, "\n", "\r", "\r\n", "\u2028", "\u2029", "\x00", "\x000", "\t\v\f\b", all, "\u00e9", "\uffff", "\ufffd", "\ufeff", "\U0001F600", "\U0010FFFF", "\xed\xa0\xbd", "\xed\xb8\x80", "\xed\xb8\x80\xed\xa0\xbd", "a\xed\xa0\xbdb", "\xed\xa0\xbd\U0001F600", "\xed\xbf\xbf", "</script>", "*/", "//", strings.Repeat("'", api.MaxString), strings.Repeat("\xed\xa0\xbd", api.MaxString), strings.Repeat("\U0001F600", api.MaxString/2), "use strict"} {
		mustWrite(t, program(node(api.NString, s)))
		mustWrite(t, program(node(api.NObject, "", node(api.NProp, s, name("a")))))
		mustWrite(t, program(node(api.NObject, "", node(api.NGet, s, node(api.NLambda, "", node(api.NParams, ""), node(api.NBlock, ""))))))
	}
	for _, s := range []string{"\xff", "a\x80", "\xed\xa0\xbd\xed\xb8\x80", "\xed\xa0", "\xc0\x80", "\xe2\x82", "\xf4\x90\x80\x80", strings.Repeat("a", api.MaxString+1), strings.Repeat("a", 2*api.MaxSource), strings.Repeat("\xed\xa0\xbd", api.MaxString+1)} {
		mustNotWrite(t, api.ErrSyntax, program(node(api.NString, s)), program(node(api.NObject, "", node(api.NProp, s, name("a")))))
	}
	for _, s := range []string{"a", "$", "_", "a1", "\u00e9", "\U00010400", "eval", "get", "a\u200c", strings.Repeat("a", api.MaxString)} {
		mustWrite(t, program(name(s)))
		mustWrite(t, program(node(api.NDot, s, name(s))))
		mustWrite(t, node(api.NProgram, "", node(api.NLabel, s, node(api.NBreak, s))))
	}
	for _, s := range []string{"", " ", "a b", " a", "a ", "1", "1a", "a;b", "a.b", "a(", "-a", "a\n", "a\\", `\u0061`, "\xff", "a\xff", "/**/a", "a//", "\u2028", "(" + strings.Repeat("(", 300), strings.Repeat("a", api.MaxString+1), "if", "null", "this", "yield"} {
		mustNotWrite(t, api.ErrSyntax, program(name(s)), node(api.NProgram, "", node(api.NVar, "", node(api.NDecl, s, none()))), node(api.NProgram, "", node(api.NFunc, s, node(api.NParams, ""), node(api.NBlock, ""))), node(api.NProgram, "", node(api.NLabel, s, node(api.NEmpty, ""))), program(node(api.NLambda, "a", node(api.NParams, "", name(s)), node(api.NBlock, ""))), node(api.NProgram, "", node(api.NTry, "", node(api.NBlock, ""), node(api.NCatch, s, node(api.NBlock, "")), none())))
		if s == "" {
			continue
		}
		mustNotWrite(t, api.ErrSyntax, program(node(api.NLambda, s, node(api.NParams, ""), node(api.NBlock, ""))), node(api.NProgram, "", node(api.NFor, "", none(), none(), none(), node(api.NBreak, s))))
	}
	mustNotWrite(t, api.ErrSyntax, program(node(api.NDot, "", name("a"))), program(node(api.NDot, "a b", name("a"))), program(node(api.NDot, "1", name("a"))), program(node(api.NDot, "a.b", name("a"))), program(node(api.NDot, "a=1", name("a"))))
	for _, r := range [][2]string{{"a", ""}, {"a", "gim"}, {"=", "g"}, {"[/]", "i"}, {`\/`, ""}, {"\u00e9", ""}, {"(?:)", ""}} {
		mustWrite(t, program(&api.Node{Kind: api.NRegex, Text: r[0], Flags: r[1]}))
	}
	for _, r := range [][2]string{{"", ""}, {"*", ""}, {"/", ""}, {"a/b", ""}, {"a\n", ""}, {"[", ""}, {"(", ""}, {"a", "y"}, {"a", "gg"}, {"a", " "}, {"a", "g "}, {"a", "+b"}, {"a", "/"}, {"a/", ""}, {`\`, ""}, {"\xff", ""}, {"a", `\u0067`}, {"/a", ""}, {strings.Repeat("a", api.MaxString+1), ""}} {
		mustNotWrite(t, api.ErrSyntax, program(&api.Node{Kind: api.NRegex, Text: r[0], Flags: r[1]}))
	}
}

// P50: operators that are none, or of another kind.
func TestWriteOperators(t *testing.T) {
	a, b := name("a"), name("b")
	for _, s := range []string{"", " ", "a", "=", "==", "+", "-", "!", "~", "++", "--", "||", "&&", "?", ",", ".", "(", "in", "typeof", "delete", "new", "+=", "=>", "**", "instanceof ", " in", "var", ";", "/*", "//"} {
		for kind, right := range map[int]string{api.NBinary: "* / % + - << >> >>> < > <= >= instanceof in == != === !== & ^ |", api.NAssign: "= *= /= %= += -= <<= >>= >>>= &= ^= |="} {
			if s == "" || !strings.Contains(" "+right+" ", " "+s+" ") {
				mustNotWrite(t, api.ErrSyntax, program(node(kind, s, a, b)))
			} else {
				mustWrite(t, program(node(kind, s, a, b)))
			}
		}
		for kind, right := range map[int]string{api.NUnary: "void typeof ++ -- + - ~ !", api.NPost: "++ --"} {
			if s == "" || !strings.Contains(" "+right+" ", " "+s+" ") {
				mustNotWrite(t, api.ErrSyntax, program(node(kind, s, a)))
			} else {
				mustWrite(t, program(node(kind, s, a)))
			}
		}
	}
}

// P50: trees of no program.
func TestNoTree(t *testing.T) {
	a := name("a")
	empty := node(api.NEmpty, "")
	block := node(api.NBlock, "")
	params := node(api.NParams, "")
	lambda := node(api.NLambda, "", params, block)
	one := func(n *api.Node) *api.Node { return node(api.NProgram, "", n) }
	mustNotWrite(t, api.ErrSyntax, nil, &api.Node{}, a, block, node(api.NProgram, "", nil), one(a), one(none()), one(node(api.NProgram, "")), one(node(99, "")), one(node(-1, "")), program(node(23, "")), program(none()), program(empty), program(block), program(params), program(nil))
	// each kind of node with parts missing, nil or too many
	for _, s := range []string{"{}", "var a", "var a=1", "a", "if(a);else;", "do;while(a)", "while(a);", "for(;;);", "for(a;b;c);", "for(var a;;);", "for(a in b);", "for(var a in b);", "switch(a){case b:c;default:}", "throw a", "try{}catch(e){}finally{}", "a:;", "function f(a){a}", "(function(){return a})", "[a,,b]", "({a:1,get b(){},set b(c){}})", "a.b", "a[b]", "a(b)", "new a(b)", "a++", "-a", "a+b", "a&&b", "a||b", "a?b:c", "a=b", "a,b", "a:for(;;){continue;break;continue a}"} {
		n, err := parse.Program(s)
		if err != nil {
			t.Fatalf("%q: %v", s, err)
		}
		mustWrite(t, n)
		eachNode(n, func(k *api.Node) {
			was := k.Kids
			for i := range was {
				k.Kids = append(append([]*api.Node{}, was[:i]...), append([]*api.Node{nil}, was[i+1:]...)...)
				mustNotWrite(t, api.ErrSyntax, n)
				k.Kids = was[:i]
				mustBeHonest(t, n)
			}
			k.Kids = append(append([]*api.Node{}, was...), nil)
			mustNotWrite(t, api.ErrSyntax, n)
			k.Kids = append(append([]*api.Node{}, was...), node(api.NParams, ""))
			mustNotWrite(t, api.ErrSyntax, n)
			k.Kids = was
			for _, change := range []func(){func() { k.Flags += "x" }, func() { k.Num += 0.5 }, func() { k.Kind++ }, func() { k.Kind = api.NNone }, func() { k.Kind = api.NName }, func() { k.Kind = api.NBlock }, func() { k.Text += "+" }, func() { k.Text = "" }, func() { k.Num = math.NaN() }, func() { k.Num = math.Copysign(0, -1) }} {
				old := *k
				change()
				mustBeHonest(t, n)
				*k = old
			}
			k.At += 1000
		})
		mustWrite(t, n)
	}
	// what cannot be written so
	mustNotWrite(t, api.ErrSyntax,
		one(node(api.NIf, "", a, node(api.NIf, "", a, empty, none()), empty)), one(node(api.NVar, "")), one(node(api.NTry, "", block, none(), none())), one(node(api.NForIn, "", a, a)), one(node(api.NForIn, "", node(api.NVar, ""), a, empty)), one(node(api.NForIn, "", node(api.NVar, "", node(api.NDecl, "a", none()), node(api.NDecl, "b", none())), a, empty)), one(node(api.NForIn, "", number(1), a, empty)), one(node(api.NForIn, "", none(), a, empty)), one(node(api.NForIn, "", node(api.NCall, "", a), a, empty)),
		one(node(api.NBreak, "")), one(node(api.NContinue, "a")), one(node(api.NReturn, "", none())), one(node(api.NBlock, "", node(api.NFunc, "f", params, block))), one(node(api.NLabel, "a", node(api.NLabel, "a", empty))), one(node(api.NLabel, "a", node(api.NFunc, "f", params, block))), one(node(api.NFunc, "eval", params, block)), one(node(api.NFunc, "", params, block)), one(node(api.NFunc, "f", node(api.NParams, "", a, a), block)), one(node(api.NFunc, "f", node(api.NParams, "", number(1)), block)), one(node(api.NFunc, "f", block, params)), one(node(api.NFunc, "f", params, empty)),
		one(node(api.NSwitch, "", a, node(api.NCase, "", none()), node(api.NCase, "", none()))), one(node(api.NSwitch, "", a, empty)), one(node(api.NThrow, "", none())), one(node(api.NExpr, "", lambda, a)), one(node(api.NCase, "", a)), one(node(api.NDecl, "a", none())), one(node(api.NCatch, "a", block)),
		program(node(api.NAssign, "=", number(1), a)), program(node(api.NAssign, "=", name("eval"), a)), program(node(api.NAssign, "=", node(api.NAssign, "=", a, a), a)), program(node(api.NUnary, "++", number(1))), program(node(api.NPost, "++", node(api.NPost, "++", a))), program(node(api.NUnary, "delete", a)), program(node(api.NObject, "", node(api.NProp, "a", a), node(api.NProp, "a", a))), program(node(api.NObject, "", a)), program(node(api.NObject, "", node(api.NGet, "a", node(api.NLambda, "", node(api.NParams, "", a), block)))), program(node(api.NObject, "", node(api.NGet, "a", node(api.NLambda, "b", params, block)))), program(node(api.NObject, "", node(api.NSet, "a", lambda))), program(node(api.NObject, "", node(api.NGet, "a", a))), program(node(api.NCall, "", a, none())), program(node(api.NNew, "", a, none())), program(node(api.NCall, "")), program(node(api.NNew, "")), program(node(api.NArray, "", nil)), program(node(api.NArray, "", empty)), program(node(api.NComma, "", a, empty)), program(node(api.NCond, "", a, a, none())),
	)
}

// mustBeHonest: what is written is that tree's; what isn't is no program's.
func mustBeHonest(t *testing.T, n *api.Node) {
	t.Helper()
	s, err := parse.Text(n)
	if err != nil {
		if s != "" || err != api.ErrSyntax && err != api.ErrDeep {
			t.Errorf("Text = %q, %v", s, err)
		}
		return
	}
	m, err := parse.Program(s)
	if got, want := told(m, false), told(n, false); err != nil || got != want {
		t.Errorf("Text: %q, %v\n got %s\nwant %s", s, err, got, want)
	}
}

func eachNode(n *api.Node, f func(*api.Node)) {
	f(n)
	for _, k := range n.Kids {
		eachNode(k, f)
	}
}

// P50: what is too large, or too deep.
func TestWriteDeep(t *testing.T) {
	const most = 1 << 18
	wide := func(n int) *api.Node {
		p := node(api.NProgram, "")
		for range n - 1 {
			p.Kids = append(p.Kids, node(api.NBlock, ""))
		}
		return p
	}
	nested := func(kind int, text string, depth int, inner *api.Node, more ...*api.Node) *api.Node {
		for range depth {
			inner = node(kind, text, append([]*api.Node{inner}, more...)...)
		}
		return inner
	}
	mustWrite(t, wide(api.MaxSource/2+1))
	mustNotWrite(t, api.ErrDeep, wide(api.MaxSource/2+2), wide(most), wide(most+1), wide(2*most))
	bad := wide(most)
	bad.Kids[most-2] = nil
	mustNotWrite(t, api.ErrSyntax, bad)
	// what is met first, from the left, counts
	endless := node(api.NBlock, "")
	endless.Kids = []*api.Node{endless}
	mustNotWrite(t, api.ErrSyntax, node(api.NProgram, "", nil, endless), node(api.NProgram, "", node(api.NBlock, "", nil), endless))
	mustNotWrite(t, api.ErrDeep, node(api.NProgram, "", endless, nil))
	for _, depth := range []int{1, 60, 118} {
		mustWrite(t, program(nested(api.NUnary, "-", depth, name("a"))))
		mustWrite(t, program(nested(api.NArray, "", depth, name("a"))))
		mustWrite(t, node(api.NProgram, "", nested(api.NBlock, "", depth+1, node(api.NEmpty, ""))))
	}
	for _, depth := range []int{119, 1000, 100000, most - 10} {
		mustNotWrite(t, api.ErrDeep, program(nested(api.NUnary, "-", depth, name("a"))), program(nested(api.NArray, "", depth, name("a"))), program(nested(api.NNew, "", depth, name("a"))), node(api.NProgram, "", nested(api.NBlock, "", depth+1, node(api.NEmpty, ""))))
	}
	// what is long, but not deep, lies deep in others
	mustWrite(t, program(nested(api.NDot, "b", 30000, name("a"))))
	mustWrite(t, program(nested(api.NCall, "", 30000, name("a"))))
	mustWrite(t, program(nested(api.NBinary, "+", 30000, name("a"), name("b"))))
	mustNotWrite(t, api.ErrDeep, program(nested(api.NDot, "b", most-10, name("a"))), program(nested(api.NComma, "", most/2-10, name("a"), name("b"))))
	long := strings.Repeat("\xed\xa0\xbd", api.MaxString)
	mustNotWrite(t, api.ErrDeep, program(nested(api.NBinary, "+", 10, node(api.NString, long), node(api.NString, long))), program(node(api.NArray, "", manyTimes(node(api.NString, long), most-10)...)), program(node(api.NArray, "", manyTimes(node(api.NLambda, "", node(api.NParams, ""), node(api.NBlock, "", program(node(api.NObject, "")).Kids[0])), most/8)...)))
	for _, kind := range []int{api.NBlock, api.NProgram, api.NUnary, api.NName, api.NObject, api.NLabel, api.NNone, 99} {
		loop := node(kind, "a")
		loop.Kids = []*api.Node{loop}
		two := node(kind, "a")
		two.Kids = []*api.Node{node(api.NBlock, "", two), two}
		for _, n := range []*api.Node{loop, two} {
			mustNotWrite(t, api.ErrDeep, n, node(api.NProgram, "", n), program(n))
		}
	}
}

func manyTimes(n *api.Node, times int) []*api.Node {
	l := make([]*api.Node, times)
	for i := range l {
		l[i] = n
	}
	return l
}

// P50: brackets that are not needed would make it deeper than it was.
func TestWriteNoDeeper(t *testing.T) {
	for _, c := range []struct{ first, open, mid, end string }{
		{"", "(", "a", ")"}, {"a=", "", "b", ""}, {"", "new ", "a.b", ""}, {"", "- ", "1..a", ""}, {"", "a(", "b", ")"}, {"", "[", "1..a", "]"}, {"", "a+b*(", "a+b", ")"}, {"", "a?", "b", ":c"}, {"", "(function(){", "", "})()"}, {"", "({a:function(){", "", "}}).b()"}, {"", "for(x=(a in b);;)(function(){", "", "})"}, {"", "new(a(", "b", ")).c[d]"}, {"", "-(b,", "a", ")"}, {"", "if(a)", ";", ""}, {"", "(a=b)?", "c", ":d=e"}, {"", "({}).a[", "1", "]"}, {"", "(function(){}).a[", "1", "]"}, {"", "a(", "b", ").c++"}, {"", "a(", "b", ").c=1"}, {"", "(", "a", ",b,c)"}, {"", "a[", "b", ",c]"}, {"", "a(", "b", ")[c]()"}, {"", "-a(", "b", ")[c]++"}, {"", "{", "a,b", "}"}, {"", "{", "throw a,b", "}"}, {"", "{", "switch(a,b){case c,d:}", "}"}, {"", "{", "if(a,b);", "}"}, {"", "{", "for(a,b;c,d;e,f);", "}"}, {"", "{", "for(a().b in c,d);", "}"}, {"", "{", "for(;a in b;c in d)e in f", "}"}, {"", "{", "for(x=function(){a in b};;);", "}"}, {"", "{", "(function(){return a,b})", "}"},
	} {
		for n := range api.MaxDeep {
			s := c.first + strings.Repeat(c.open, n) + c.mid + strings.Repeat(c.end, n)
			if tree, err := parse.Program(s); err == nil {
				mustWrite(t, tree)
			}
		}
	}
}

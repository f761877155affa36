package parse_test

import (
	"fmt"
	"strings"
	"testing"

	"ecmacore/api"
	"ecmacore/lex"
)

// P40: what is no token.
func TestTokens(t *testing.T) {
	marked(t, api.ErrSyntax, "§@", "a §@", "a;§\xff", "a§\xff", "§/*", "a §/*", "'a§\\1'", "§'a", "a = §\"", "0x§", "1§a", "§01", "a.§\\a", "{}§#", "(§\xff)", "a\n§@", "/a§\xff/", "/* §\xff*/")
	mustBeWrong(t, "'"+strings.Repeat("a", api.MaxString+1)+"'", api.ErrSyntax, 0)
	mustBeRight(t, "'"+strings.Repeat("a", api.MaxString)+"'")
	// what was wrong ahead of it comes first
	marked(t, api.ErrSyntax, "§) @", "a §b @", "var §1 @")
	marked(t, api.ErrEarly, "§1=@", "§with@")
}

// P45: what else is no program.
func TestSyntax(t *testing.T) {
	marked(t, api.ErrSyntax,
		"switch(a){default:§default:}", "switch(a){default:case 1:§default:b}", "switch(a){default:§default @", "switch(a){case 1:default:b;case 2:§default:}",
		"try{}§", "try{} §;", "try{}§a", "try{}§else", "try{}\n§",
		"({get a§(b){}})", "({get a§(b,c){}})", "({set a§(){}})", "({set a§(b,c){}})", "({get 'a'§(b){}})", "({get get§(b){}})", "({set 1§(){}})",
		"f(a,§)", "f(a,b,§)", "new f(a,§)", "function f(a,§){}", "(function(a,b,§){})", "f(§,)", "function f(§,){}", "({set a(b,§){}})",
	)
	mustBeRight(t, "switch(a){default:switch(b){default:}}", "switch(a){default:(function(){switch(b){default:}})}", "({get a(){},set a(b){}})")
	for _, w := range strings.Fields("break case catch continue debugger default delete do else finally for function if in instanceof new return switch this throw try typeof var void while with class const enum export extends import super null true false implements interface let package private protected public static yield") {
		if !lex.Keyword(w) {
			t.Errorf("%s is a keyword", w)
		}
		escaped := fmt.Sprintf("\\u%04x%s", w[0], w[1:])
		for _, k := range []string{w, escaped} {
			marked(t, api.ErrSyntax, "var §"+k, "var a,§"+k+"=1", "function §"+k+"(){}", "function f(§"+k+"){}", "function f(a,§"+k+"){}", "try{}catch(§"+k+"){}", "for(;;)break §"+k, "for(;;)continue §"+k, "for(var §"+k+" in a);")
			if k != "function" {
				marked(t, api.ErrSyntax, "(function §"+k+"(){})")
			}
			mustBeLike(t, "a."+k, "a."+w)
			mustBeLike(t, "({"+k+":1})", "({'"+w+"':1})")
			mustBeLike(t, "({get "+k+"(){},set "+k+"(a){}})", "({get '"+w+"'(){},set '"+w+"'(a){}})")
			mustBeLike(t, "a."+k+"()."+k+"["+"a."+k+"]", "a."+w+"()."+w+"[a."+w+"]")
		}
		marked(t, api.ErrSyntax, "§"+escaped, "(§"+escaped+")", "§"+escaped+" (a);", "a §"+escaped+" b", "a=§"+escaped, "§"+escaped+":a", "-§"+escaped, "{§"+escaped+"}")
	}
	marked(t, api.ErrSyntax, "if(a);§els\\u0065;", "do;§whil\\u0065(a);", "for(a §\\u0069n b);", "try{}§c\\u0061tch(a){}", "try{}§fin\\u0061lly{}", "switch(a){§c\\u0061se 1:}", "switch(a){§d\\u0065fault:}")
}

// P46: which of two is found first.
func TestOrder(t *testing.T) {
	// before they are passed
	marked(t, api.ErrEarly, "var §eval@", "var a,§arguments \xff", "function §eval@", "(function §arguments@", "function f(§eval@", "function f(a,§a@", "try{}catch(§eval@", "a:{b:for(;;)continue §c@", "for(;;)break §a@", "for(;;)break §a 1", "a:{continue §a @", "for(var §eval@", "§with@", "{§function@", "§return@", "a:§a:@")
	marked(t, api.ErrSyntax, "var §if@", "function f(§1@")
	// when what follows is looked at
	marked(t, api.ErrSyntax, "break§@", "continue §@", "break§\xff", "break\n§@", "break§/*")
	marked(t, api.ErrEarly, "§break 1", "§continue 1", "§break if", "§break(", "§continue\na", "§break", "{§break}", "§break \\u0069f", "§break /a/")
	// when all of it was read, ahead of what follows
	marked(t, api.ErrEarly, "§1=@", "§1=", "§1++@", "++§1 2", "++§1)", "--§a() b", "delete §a b", "delete §a)", "delete §(a) {", "-§1++@", "§eval=@", "§a+b=@", "§(1)=@", "for(§eval in@", "for(§(arguments)in@", "§1 = 2 = @", "a = §1 = @", "++§-1", "++§(a,b)c")
	marked(t, api.ErrSyntax, "1 §@ = 2", "++1§@", "++1 §@", "delete a§@", "delete a §\xff", "++a().§", "++(1§", "(1§", "(1)§@", "for(eval §@", "for(1 §in @")
	// a key that was
	marked(t, api.ErrEarly, "({a:1,§a:@", "({a:1,§a})", "({a:1,§a", "({a:1,§a,", "({a:1,§a 1", "({a:1,§'a'}", "({1:1,§1(", "({get a(){},§get a", "({get a(){},§get a(@", "({get a(){},§get a:", "({a:1,§get a]", "({set a(b){},§set a(c,d){}})", "({get:1,§get:@", "({a:1,§get a(b){}})")
	marked(t, api.ErrSyntax, "({a:1,a§@", "({a:1,a §\xff", "({get a(){},get a§@", "({get a(){},get§@", "({get:1,get§}", "({get:1,get§,", "({get:1,get §@", "({a:1,get§", "({get:1,set§")
	// a wrong number of parameters
	marked(t, api.ErrSyntax, "({get a§(b);", "({get a§(b)", "({get a§(b){@", "({set a§()1", "({set a§(b,c){return @", "({get a(b)§@", "({set a()§\xff", "({get a(b§", "({get a(b,§)", "({set a(b §c)", "({set a§(b,c)")
	marked(t, api.ErrEarly, "({get a(§eval){}})", "({set a(b,§b){}})", "({set a(b,§arguments)")
	// what stands first is found first
	marked(t, api.ErrEarly, "§1=2;)", "var §eval;)", "§with(a)b;@")
	marked(t, api.ErrSyntax, "§);1=2", "a §b;1=2")
}

// P47: names that are not bound, and what is not assigned to.
func TestBound(t *testing.T) {
	for _, name := range []string{"eval", "arguments", `\u0065val`, `argum\u0065nts`} {
		marked(t, api.ErrEarly, "var §"+name, "var a,§"+name+"=1", "for(var §"+name+";;);", "for(var §"+name+" in a);", "function §"+name+"(){}", "(function §"+name+"(){})", "function f(§"+name+"){}", "(function(a,§"+name+"){})", "({set a(§"+name+"){}})", "try{}catch(§"+name+"){}")
		for _, op := range strings.Fields("= *= /= %= += -= <<= >>= >>>= &= ^= |=") {
			marked(t, api.ErrEarly, "§"+name+op+"1", "§("+name+")"+op+"1", "a=§((  "+name+"))"+op+"1")
		}
		marked(t, api.ErrEarly, "++§"+name, "--§("+name+")", "§"+name+"++", "§("+name+")--", "-§"+name+"++", "for(§"+name+" in a);", "for(§("+name+")in a);")
		mustBeRight(t, name, name+"()", name+".a=1", name+"[0]++", "a."+name+"=1", "({"+name+":1})", "({get "+name+"(){}})", name+":;", name+":for(;;)break "+name, "a="+name, "typeof "+name, "new "+name, "for(a in "+name+");", "a["+name+"]=1")
	}
	marked(t, api.ErrEarly, "function f(a,§a){}", "(function(a,b,§a){})", "(function f(a,b,c,§b,b){})", `function f(a,§\u0061){}`, "({set a(b,§b){}})", "function f(a){(function(b,§b){})}")
	mustBeRight(t, "function f(f){}", "function f(a){function g(a){}}", "function f(a,b){var a}", "try{}catch(a){var a}", "var a,a")
	for _, s := range []string{"1", "'a'", "this", "null", "true", "/a/", "[]", "({})", "(function(){})", "a()", "new a", "new a()", "a.b()", "(a,b)", "(a=b)", "(a+b)", "(-a)", "(a++)", "(a?b:c)", "(a||b)", "(a.b,c)", "((a)())"} {
		marked(t, api.ErrEarly, "§"+s+"=1", "a+§"+s+"++", "++§"+s, "--§"+s, "§("+s+")=1", "a=§"+s+"+=1", "(§"+s+"=1)", "a(§"+s+"++)", "a?§"+s+"=b:c", "a?b:§"+s+"=c", "var a=§"+s+"=1")
		if s != "({})" && s != "(function(){})" {
			marked(t, api.ErrEarly, "§"+s+"++")
		}
	}
	marked(t, api.ErrEarly, "§a+b=c", "§a||b=c", "§-a=b", "§a++=b", "§++a=b", "§typeof a=b", "a?b:§c+d=e", "§a*b+=c", "++§a++", "++§++a", "--§-a", "§a==b=c", "a=§b+c=d", "-§a()++", "§new a=b", "§a in b=c", "a,§b+c=d", "++§new a", "++§a()")
	mustBeRight(t, "a=1", "(a)=1", "((a))=1", "a.b=1", "(a.b)=1", "a[b]=1", "(a)[b]++", "++(a)", "--a.b", "a()[b]=1", "a().b++", "new a().b=1", "(a,b).c=1", "this.a=1", "'a'.b=1", "a=b=c", "a?b=c:d=e", "- --a", "a\n++\nb", "1\n++b", "[].a=1", "/a/.b=1", "function f(){}\na=1")
	marked(t, api.ErrEarly, "delete §a", "delete §(a)", "delete §((a))", "delete §eval", "delete  §a;", "-delete §a", "delete delete §a", "a=delete §b", "delete §a+b", "delete §a,b", `delete §\u0061`)
	mustBeRight(t, "delete a.b", "delete a[b]", "delete a()", "delete(a,b)", "delete-a", "delete this", "delete 1", "delete a++", "delete(a.b)", "delete typeof a", "delete(a=b)", "delete a.b.c", "delete new a", "delete/a/")
	marked(t, api.ErrEarly, "§with(a)b", "{§with(a);}", "if(a)§with(b);", "function f(){§with(a)b}")
	marked(t, api.ErrEarly, "{§function f(){}}", "if(a)§function f(){}", "if(a);else §function f(){}", "a:§function f(){}", "for(;;)§function f(){}", "while(a)§function f(){}", "do §function f(){}", "switch(a){case 1:§function f(){}}", "switch(a){default:§function f(){}}", "try{§function f(){}}finally{}", "try{}catch(e){§function f(){}}", "try{}finally{§function f(){}}", "function f(){{§function g(){}}}", "{§function(){}}", "for(a in b)§function f(){}")
}

// P47: labels, loops, functions around; keys; patterns are in TestPatterns.
func TestAround(t *testing.T) {
	marked(t, api.ErrEarly, "a:§a:;", "a:{b:§a:;}", "a:for(;;)§a:;", "a:b:§a:;", `a:§\u0061:;`, "function f(){a:{§a:;}}", "a:if(b)c:§a:;")
	mustBeRight(t, "a:;a:;", "a:{b:;}b:;", "a:(function(){a:;})", "a:{(function(){a:{break a}})}", "{a:;}a:{a1:;}")
	marked(t, api.ErrEarly, "§break", "§continue", "{§break}", "{§continue}", "if(a)§break", "a:§break", "a:{§break}", "a:{§continue}", "switch(a){case 1:§continue}", "for(;;);§break", "for(;;)(function(){§break})", "while(a)(function(){§continue})", "do(function f(){§break});while(a)", "for(a in b)({get c(){§break}})", "switch(a){case 1:(function(){§break})}", "switch(a){}§break", "function f(){§break}", "a:for(;;)(function(){§continue})")
	mustBeRight(t, "for(;;)break", "for(;;)continue", "while(a)break", "do continue;while(a)", "for(a in b)continue", "switch(a){case 1:break}", "switch(a){default:{if(b)break}}", "for(;;)switch(a){case 1:continue}", "for(;;){try{break}finally{continue}}", "for(;;)a:break", "for(;;)a:continue", "for(;;){(function(){for(;;)break});break}")
	marked(t, api.ErrEarly, "break §a", "continue §a", "for(;;)break §a", "for(;;)continue §a", "a:for(;;)break §b", "a:;break §a", "a:for(;;);for(;;)continue §a", "a:{continue §a}", "a:switch(b){case 1:continue §a}", "a:for(;;)(function(){break §a})", "a:for(;;)(function(){for(;;)continue §a})", "a:if(b)for(;;)continue §a", "a:{for(;;)continue §a}", "a:b:{for(;;)continue §a}", "a:{b:for(;;)continue §a}", "b:a:{for(;;)continue §b}", "a:try{for(;;)continue §a}finally{}", "for(;;)a:continue §a", "a:with1:break §b")
	mustBeRight(t, "a:break a", "a:{break a}", "a:b:break a", "a:b:{break a;break b}", "a:if(b)break a", "a:for(;;)continue a", "a:while(b)continue a", "a:do continue a;while(b)", "a:for(b in c)continue a", "a:b:c:for(;;){continue a;continue b;continue c;break a}", "a:for(;;){b:for(;;){continue a;continue b}}", "a:for(;;){b:{continue a;break b}}", "a:switch(b){case 1:break a}", "a:try{break a}finally{break a}", `a:for(;;)continue \u0061`, "a:{b:for(;;){break a;continue b}}", "a:for(;;)for(;;)continue a")
	marked(t, api.ErrEarly, "§return", "§return 1", "{§return}", "if(a)§return", "for(;;)§return", "function f(){}§return", "a:§return")
	mustBeRight(t, "function f(){return}", "(function(){if(a)return 1})", "({get a(){return}})", "({set a(b){return}})", "function f(){(function(){});return}", "function f(){for(;;)return}")
	marked(t, api.ErrEarly, "({a:1,§a:2})", "({a:1,b:2,§a:3})", "({a:1,§'a':2})", "({'a':1,§\"a\":2})", "({1:1,§1:2})", "({1:1,§'1':2})", "({0x10:1,§16:2})", "({1e21:1,§'1e+21':2})", "({'':1,§'':2})", "({get a(){},§get a(){}})", "({set a(b){},§set a(b){}})", "({a:1,§get a(){}})", "({a:1,§set a(b){}})", "({get a(){},§a:1})", "({set a(b){},§a:1})", "({get a(){},set a(b){},§get a(){}})", "({get a(){},set a(b){},§set a(b){}})", "({get a(){},set a(b){},§a:1})", "({a:{b:1,§b:2}})", "({__proto__:1,§__proto__:2})", `({a:1,§\u0061:2})`, "({if:1,§'if':2})", "({get:1,§'get':2})", "({get get(){},§get get(){}})")
	mustBeRight(t, "({get a(){},set a(b){}})", "({set a(b){},get a(){}})", "({a:1,b:2,c:3})", "({a:{a:1}})", "({a:1,A:2})", "({get:1,set:2,get a(){},set a(b){}})", "({get a(){},get b(){}})", "({a:1,'a ':2})", "({1:1,'01':2})", "({hasOwnProperty:1,toString:2,constructor:3})")
}

// P48: how deep things lie. The marks stand where something begins that is one deeper than all ahead of it.
func TestDepth(t *testing.T) {
	for _, c := range []struct{ first, open, mid, end string }{
		{"", "§{", "", "}"}, {"§", "{§;", "", "}"}, {"§§", "(§", "a", ")"}, {"§§", "(§a,", "b", ")"}, {"§§", "[§", "a", "]"}, {"§§", "[§a,", "b", "]"}, {"§§", "[,§", "a", "]"}, {"§§", "a(§", "b", ")"}, {"§§", "a[§", "b", "]"}, {"§§", "a=§", "b", ""}, {"§§", "a+=§", "b", ""}, {"§§", "a?§", "b", ":c"}, {"§§", "a?§b:", "c", ""}, {"§§", "a+(§", "b", ")*c"}, {"§var a=§", "(§", "b", ")"}, {"§§a=§", "{a:§", "b", "}"}, {"§throw §", "(§", "b", ")"},
		{"§§", "§- ", "a", ""}, {"§§", "§! ", "a", ""}, {"§§", "§typeof ", "a", ""}, {"§§", "§delete ", "a.b", ""}, {"§§", "§-(§", "a", ")"}, {"§§", "a+§-(§", "a", ")"}, {"§§", "§new ", "a", ""}, {"§§", "§new a(§", "b", ")"}, {"§§", "§new(§", "a", ")"}, {"§§", "§-§new(§", "a", ")"}, {"§§", "§new a[§", "b", "]"},
		{"§", "if(§a)", ";", ""}, {"§", "if(§a);else ", ";", ""}, {"§", "while(§a)", ";", ""}, {"§", "do §", ";", "while(a)"}, {"§", "for(;;)§", ";", ""}, {"§", "for(§a;b;c)", ";", ""}, {"§", "for(;§a;)", ";", ""}, {"§", "for(;;§a)", ";", ""}, {"§", "for(§a in b)", ";", ""}, {"§", "for(var a in §b)", ";", ""}, {"§", "for(var a=§b;;)", ";", ""}, {"§", "switch(§a){case 1:", "", "}"}, {"§", "switch(§a){default:", "", "}"}, {"§", "try{§", ";", "}finally{}"}, {"§", "try{}catch(e){§", ";", "}"}, {"§", "try{}finally{§", ";", "}"}, {"§", "try{}catch(e){}finally{§", ";", "}"},
		{"", "function f§(){", "", "}"}, {"", "function f§(a,b){", "", "}"}, {"", "§§(§function§(){", "", "})"}, {"", "§§a=§function f§(){", "", "}"}, {"", "§§(§{get a§(){", "", "}})"}, {"", "§§(§{set a§(b){", "", "}})"}, {"", "function f§(){§return §function§(){", "", "}}"},
	} {
		mustReach(t, c.first, c.open, c.mid, c.end)
	}
	labels := ""
	for i := range api.MaxDeep - 1 {
		labels += fmt.Sprint("a", i, ":")
	}
	mustBeRight(t, labels+";", labels+"{}")
	marked(t, api.ErrDeep, labels+"§a", labels+"{§a}", labels+"b:§;", labels+"b:§c:;")
	marked(t, api.ErrSyntax, labels+"§", labels+"b:§")
	// what is none
	const many = 1000
	mustBeRight(t, "a"+strings.Repeat(".b", many), "a"+strings.Repeat("()", many), "a"+strings.Repeat("[b]", many), "a"+strings.Repeat("+a", many), "a"+strings.Repeat(",a", many), "a"+strings.Repeat("||a", many), strings.Repeat("a++\n", many), strings.Repeat("{}", many), strings.Repeat("function f(){}", many), "switch(a){"+strings.Repeat("case 1:a;", many)+"}", "["+strings.Repeat("[],", many)+"]", "a("+strings.Repeat("-a,", many)+"a)", "a("+strings.Repeat("new a,", many)+"a)", "a("+strings.Repeat("function(){},", many)+"a)", "a("+strings.Repeat("a=b,a?b:c,", many)+"a)", strings.Repeat("a:{}if(a);else;", many), "var a"+strings.Repeat(",a=-1", many))
}

// mustReach asks that just so many can lie in each other, and what is wrong with one more, or where the text ends ahead of it.
func mustReach(t *testing.T, first, open, mid, end string) {
	t.Helper()
	const mark = "§"
	n := (api.MaxDeep - strings.Count(first, mark)) / strings.Count(open, mark)
	plain := strings.NewReplacer(mark, "")
	mustBeRight(t, plain.Replace(first+strings.Repeat(open, n)+mid)+strings.Repeat(end, n))
	s := first + strings.Repeat(open, n+1)
	at := 0
	for range api.MaxDeep + 1 {
		at += strings.Index(s[at:], mark) + len(mark)
	}
	ahead := plain.Replace(s[:at])
	mustBeWrong(t, ahead+plain.Replace(s[at:]+mid)+strings.Repeat(end, n+1), api.ErrDeep, len(ahead))
	mustBeWrong(t, ahead, api.ErrSyntax, len(ahead))
}

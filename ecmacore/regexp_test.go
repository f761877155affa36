package ecmacore_test

import (
	"strings"
	"testing"

	"ecmacore/api"
)

const syntaxError = "Error SyntaxError "

// P106: RegExp, called and with new.
func TestRegExpMade(t *testing.T) {
	two.gives(t,
		[2]string{"typeof RegExp, RegExp.length, RegExp.prototype === Object.getPrototypeOf(/a/), RegExp.prototype.constructor === RegExp, /a/ instanceof RegExp, RegExp('a') instanceof RegExp, new RegExp('a') instanceof RegExp, {}.toString.call(RegExp('a')), typeof RegExp()", "function 2 true true true true true [object RegExp] object"},
		[2]string{"RegExp('a'), new RegExp('a', 'g'), RegExp('a', 'mig'), RegExp('a', ''), RegExp('a', undefined), new RegExp('a/b\\n'), RegExp('\\\\/'), RegExp(5), RegExp(null), RegExp([1, 2]), RegExp(true, 'i')", "/a/ /a/g /a/mig /a/ /a/ /a/b\n/ /\\// /5/ /null/ /1,2/ /true/i"},
		[2]string{"RegExp(), RegExp(''), RegExp(undefined), new RegExp, new RegExp(undefined, 'g'), RegExp('').source, RegExp('', 'i').source, new RegExp().source, RegExp('(?:)').source", "/(?:)/ /(?:)/ /(?:)/ /(?:)/ /(?:)/g (?:) (?:) (?:) (?:)"},
		[2]string{"RegExp('a') === RegExp('a'), RegExp('\\\\d').test('5'), RegExp('d').test('5'), RegExp('\\ud83d').test('\\ud83d\\ude00'), RegExp('\\ud83d\\ude00').source.length, RegExp(new String('a+')).exec('baa')[0]", "false true false true 2 aa"},
	)
	two.says(t, "var r = /q/gm; r.lastIndex = 3; print(RegExp(r) === r, RegExp(r, undefined) === r, new RegExp(r) === r, new RegExp(r), new RegExp(r, undefined).lastIndex, r.lastIndex)", "true true false /q/gm 0 3")
	two.says(t, "var p = RegExp.prototype, r = new RegExp(p); print(RegExp(p) === p, r === p, r, r.source, r.test('')); r = new RegExp(/a/mi); print(r, r.source, r.global, r.ignoreCase, r.multiline)", "true false /(?:)/ (?:) true", "/a/mi a false true true")
	two.fails(t, typeError, "RegExp(/a/, 'g')", "new RegExp(/a/, 'g')", "RegExp(/a/, '')", "RegExp(/a/, null)", "new RegExp(/a/, {toString: function () { print('no') }})", odd+"RegExp(bad)", odd+"RegExp('(', bad)", "RegExp.prototype = 1")
	two.fails(t, syntaxError, "RegExp('(')", "new RegExp(')')", "RegExp('*')", "RegExp('a', 'gg')", "RegExp('a', 'x')", "RegExp('a', 'gig')", "RegExp('a', null)", "RegExp('a', ' g')", "RegExp('[b-a]')", "RegExp('\\\\')", "RegExp('(a)\\\\2')", "RegExp('a{2,1}')", "RegExp('\\\\$')", "RegExp('a', '\\ud83d')")
	// What is no object with a pattern is taken for a string, the first first.
	two.says(t, asked+"print(RegExp(v('a', 'x'), v('b', 'g'), v('c', 1)), RegExp(Object.create(/a/i, {toString: {value: function () { return 'q' }}}), 'g'))", "a string", "b string", "/x/g /q/g")
	two.ends(t, end{src: asked + "RegExp(v('a', '('), v('b', 'q'))", text: syntaxError, steps: 4, lines: []string{"a string", "b string"}})
	two.takes(t, taken{"RegExp('a'); new RegExp('(a*)*b'); RegExp(/a/); new RegExp(/b/)", 0}, taken{"RegExp([1, 2], [])", 2})
}

// P106: patterns that are too deep or too large are refused; others may be as long as strings.
func TestRegExpBounds(t *testing.T) {
	deep := func(n int) string { return "'" + strings.Repeat("(?:", n) + strings.Repeat(")", n) + "'" }
	two.says(t, "print(RegExp("+deep(api.MaxDeep-1)+").test(''))", "true")
	two.fails(t, syntaxError, "RegExp("+deep(api.MaxDeep)+")")
	two.says(t, "print(RegExp("+of(api.MaxParts, "a")+").source.length)", "4096")
	two.fails(t, syntaxError, "RegExp("+of(api.MaxParts+1, "a")+")")
	class := "'[" + strings.Repeat("a", api.MaxString-2) + "]'"
	two.says(t, "var r = RegExp("+class+"); print(r.source.length, r.test('a'), r.test('b'))", "8192 true false")
	two.says(t, names+"var r = RegExp("+class+"), q = RegExp('[' + "+of(8188, "a")+" + ']'); print(names(function () { return r.toString() }), q.toString().length, new RegExp(q, undefined).toString().length, names(function () { return '' + RegExp(q.source, 'g') }))", "RangeError 8192 8192 RangeError")
}

// P106: what objects with a pattern have; of the prototype, too.
func TestRegExpProperties(t *testing.T) {
	for _, r := range []string{"/a(b)?/gi", "RegExp('a(b)?', 'gi')", "new RegExp('a(b)?', 'ig')", "new RegExp(/a(b)?/gi)"} {
		two.says(t, tell+"var r = "+r+"; print(Object.getOwnPropertyNames(r)); print(tell(r, 'source'), tell(r, 'global'), tell(r, 'ignoreCase'), tell(r, 'multiline'), tell(r, 'lastIndex'), Object.isExtensible(r))", "source,global,ignoreCase,multiline,lastIndex", "a(b)?: true: true: false: 0:w true")
	}
	two.says(t, tell+"var r = RegExp.prototype; print({}.toString.call(r), Object.getPrototypeOf(r) === Object.prototype); print(tell(r, 'source'), tell(r, 'global'), tell(r, 'ignoreCase'), tell(r, 'multiline'), tell(r, 'lastIndex'), r.test('x'), r.exec('x').index, r, ''.match(r).length)", "[object RegExp] true", "(?:): false: false: false: 0:w true 0 /(?:)/ 1")
	two.fails(t, typeError, "RegExp('a').source = 1", "RegExp('a').global = true", "delete RegExp('a').lastIndex", "Object.defineProperty(/a/, 'global', {value: true})", "RegExp.prototype.source = ''")
	// A literal's source is what stands in the program; each time it is done it is a new one.
	two.gives(t,
		[2]string{"/\\u0061[/]\\/(?:)/.source, /\\u0061/.test('a'), /\u00e9/.source, /\U0001F600/.source.length, /=/.source, /[\\]/]/.source", "\\u0061[/]\\/(?:) true \u00e9 2 = [\\]/]"},
		[2]string{"(function () { var l = []; for (var i = 0; i < 2; i++) l[i] = /a/g; l[0].lastIndex = 5; return l[1].lastIndex + ' ' + (l[0] === l[1]) })()", "0 false"},
	)
	// At lower levels they have nothing behind them.
	for l := range level(2) {
		l.says(t, "var r = /a/g; print(r, r.source, r.global, r.lastIndex, typeof r.exec, typeof r.test, typeof RegExp, typeof 'a'.match)", "[object RegExp] a true 0 undefined undefined undefined undefined")
	}
}

// P107: exec.
func TestExec(t *testing.T) {
	two.says(t, tell+"var m = /a(b)?(c)?/.exec('xxabyac'); print(Array.isArray(m), Object.getPrototypeOf(m) === Array.prototype, m.length, m[0], m[1], m[2], Object.getOwnPropertyNames(m)); print(tell(m, 0), tell(m, 1), tell(m, 2), tell(m, 'length'), tell(m, 'index'), tell(m, 'input'))",
		"true true 3 ab b undefined 0,1,2,length,index,input", "ab:wec b:wec undefined:wec 3:w 2:wec xxabyac:wec")
	two.gives(t,
		[2]string{"/a/.exec('b'), /a/.exec('') === null, /(?:)/.exec('').index, /$/.exec('abc').index, /b*/.exec('abb')[0] === '', /(z)((a+)?(b+)?(c))*/.exec('zaacbbbcac'), /undefined/.exec().index, /null/.exec(null).input, /1/.exec(21).index, /2/.exec([1, 2]).input", "null true 0 3 true zaacbbbcac,z,ac,a,,c 0 null 1 1,2"},
		[2]string{"/\\ude00/.exec('a\\ud83d\\ude00').index, /./.exec('\\ud83d\\ude00')[0] === '\\ud83d', /[^a]+/.exec('a\\ud83d\\ude00')[0], /\\u00E9/i.exec('\\u00c9').input, /a/.exec(new String('ba')).index, typeof /a/.exec(new String('a')).input", "2 true \U0001F600 \u00c9 1 string"},
		[2]string{"/a/i.test('A'), /a/.test('A'), /^b/m.test('a\\nb'), /^b/.test('a\\nb'), /a/g.test('ba'), /undefined/.test(), /x/.test(), typeof /a/.test('a')", "true false true false true true false boolean"},
	)
	two.fails(t, typeError, "/a/.exec.call({}, {toString: function () { print('no') }})", "/a/.exec.call(undefined, 'a')", "/a/.exec.call('a', 'a')", "/a/.exec.call(Object.create(/a/), 'a')", "/a/.test.call({}, 'a')", "/a/.test.call(null)", "/a/.test.call('a')", "/a/.toString.call({})", "/a/.toString.call(undefined)", "/a/.toString.call('/a/')", "Object.create(/a/).test('a')", "Object.create(/a/) + ''", odd+"/a/.exec(bad)", odd+"/a/.test(bad)", "new (/a/.exec)('a')", "RegExp.prototype.exec.call(Math, '')")
}

// P107: lastIndex: asked behind the argument; it counts with g alone; 0 is put where nothing is found.
func TestLastIndex(t *testing.T) {
	two.says(t, "var r = /a/g, s = 'xaxa'; print(r.test(s), r.lastIndex, r.test(s), r.lastIndex, r.test(s), r.lastIndex, r.exec(s).index, r.lastIndex)", "true 2 true 4 false 0 1 2")
	two.says(t, "var r = /a/; r.lastIndex = 2; print(r.exec('a').index, r.lastIndex, r.test('b'), r.lastIndex); r.lastIndex = -5; print(r.test('a'), r.lastIndex, r.test(''), r.lastIndex)", "0 2 false 0", "true -5 false 0")
	two.says(t, "var r = /a*/g; print(r.exec('b').index, r.lastIndex, r.exec('b').index, r.lastIndex); r.lastIndex = 1; print(r.exec('b').index, r.lastIndex); r.lastIndex = 2; print(r.exec('b'), r.lastIndex)", "0 0 0 0", "1 1", "null 0")
	for _, c := range [][2]string{
		{"'1'", "1 2"}, {"1.9", "1 2"}, {"NaN", "0 1"}, {"undefined", "0 1"}, {"null", "0 1"}, {"'x'", "0 1"}, {"-0.9", "0 1"}, {"2", "2 3"}, {"true", "1 2"}, {"[1]", "1 2"}, {"{}", "0 1"},
		{"3", "null 0"}, {"-1", "null 0"}, {"Infinity", "null 0"}, {"-Infinity", "null 0"}, {"4294967296", "null 0"}, {"'-1'", "null 0"},
	} {
		two.says(t, "var r = /a/g; r.lastIndex = "+c[0]+"; var m = r.exec('aaa'); print(m && m.index, r.lastIndex)", c[1])
	}
	two.says(t, "var r = /(?:)/g; r.lastIndex = 3; print(r.exec('abc').index, r.lastIndex); r.lastIndex = 4; print(r.exec('abc'), r.lastIndex); r = /^/g; r.lastIndex = 1; print(r.exec('abc'), r.lastIndex); r = /^/gm; r.lastIndex = 1; print(r.exec('a\\nb').index, r.lastIndex)", "3 3", "null 0", "null 0", "2 2")
	two.says(t, asked+"var r = /a/g; r.lastIndex = v('at', 1); print(r.exec(v('text', 'aa')).index, r.lastIndex); r = /a/; r.lastIndex = v('at', 1); r.test(v('text', 'aa')); r.test('b'); print(r.lastIndex)", "text string", "at number", "1 2", "text string", "at number", "at number", "0")
	two.fails(t, typeError, odd+"var r = /a/; r.lastIndex = bad; r.exec('a')", odd+"var r = /a/g; r.lastIndex = bad; r.test('a')")
	// It is put, so it must be writable, where it is put.
	two.says(t, names+"function frozen(r) { return Object.freeze(r) } print(frozen(/a/).test('a'), names(function () { frozen(/a/).test('b') }), names(function () { frozen(/a/g).test('a') }), names(function () { frozen(/a/g).test('b') }))", "true TypeError TypeError TypeError")
	two.ends(t, end{src: "var r = Object.freeze(/a/g); r.exec('ba')", text: typeError, steps: 4}, end{src: "Object.freeze(/a/).exec('b')", text: typeError, steps: 4})
}

// P107: the steps of patterns are the run's.
func TestPatternSteps(t *testing.T) {
	two.takes(t,
		taken{"/b/.exec('ab')", 4}, taken{"/b/.test('ab')", 4}, taken{"/z/.test('ab')", 6}, taken{"/(?:)/.test('abc')", 1}, taken{"/a(b)/.exec('xab')", 5}, taken{"/a|b/.test('b')", 5}, taken{"/(?:)/.test('')", 1},
		taken{"var r = /a/g; r.lastIndex = 1; r.test('aa')", 2}, taken{"var r = /a/g; r.lastIndex = 3; r.test('aa')", 0}, taken{"var r = /a/g; r.lastIndex = -1; r.test('aa')", 0}, taken{"var r = /a/; r.lastIndex = 3; r.test('aa')", 2}, taken{"var r = /b/g; r.lastIndex = 2; r.test('aa')", 2},
		taken{"/a/.test([1, 2])", 2 + 8}, taken{"for (var i = 0; i < 3; i++) /a/.test('a')", 3 * 3}, taken{"(function () { return /a/.test('a') })()", 3}, taken{"/a*b/.test('aab')", 1 + 2*3 + 1}, taken{"String(/a/); /a/.toString()", 0},
	)
	slow := "/(a*)*b/.test(" + of(30, "a") + ")"
	for _, steps := range []int{0, 1, 2, 1000, 1 << 20} {
		if r := two.run(slow+"; print(1)", steps); r.How != api.Cut || r.Steps != steps || r.Lines != nil {
			t.Errorf("%s with %d steps: %+v", slow, steps, r)
		}
	}
	// Nothing catches that.
	if r := two.run("print(0); try { "+slow+" } catch (e) { print(1) } finally { print(2) }", 5000); r.How != api.Cut || r.Steps != 5000 || len(r.Lines) != 1 {
		t.Errorf("%+v", r)
	}
}

// P107: toString tells the flags as they were told; test and toString do not ask for other properties.
func TestRegExpText(t *testing.T) {
	two.gives(t,
		[2]string{"/a/, /a/gim, /a/mig, /a/mgi + '', RegExp('', 'im'), /[/]/.toString(), new RegExp(/x/ig), RegExp('\\n') + ''", "/a/ /a/gim /a/mig /a/mgi /(?:)/im /[/]/ /x/ig /\n/"},
		[2]string{"typeof /a/.toString(), /a/ == '/a/', [/a/g, /b/], 'x' + /a/, /a/.valueOf() === /a/", "string true /a/g,/b/ x/a/ false"},
	)
	two.says(t, "var r = /a/g; r.exec = r.toString = function () { return 'mine' }; print(r.test('a'), r.lastIndex, r, RegExp.prototype.toString.call(r), 'ba'.match(r), 'ba'.search(r), 'ba'.replace(r, 'c'))", "true 1 mine /a/g a 1 bc")
}

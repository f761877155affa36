package ecmacore_test

import (
	"testing"

	"ecmacore/api"
)

// all(o) tells the own places and the length of a list: a place that is missing is a blank.
const all = `function all(o) { var s = ''; for (var i = 0; i < o.length && i < 20; i++) s += (i ? ',' : '') + (Object.prototype.hasOwnProperty.call(o, i) ? o[i] : ' '); return '[' + s + ']' + o.length } `

// list(o) is an object that says which of its properties are read and put; number(s, x) says s when it is taken for the number x; told() tells all that was said.
const logged = `var q = []; function say(s) { q[q.length] = s } function told() { var s = q.join(' '); q = []; return s }
function list(values) { var o = {}; Object.keys(values).forEach(function (k) { var v = values[k]; Object.defineProperty(o, k, {get: function () { say('get ' + k); return v }, set: function (x) { say('put ' + k + '=' + x); v = x }, enumerable: true, configurable: true}) }); return o }
function number(name, x) { return {valueOf: function () { say(name); return x }} } `

// P94: Array, called and with new.
func TestArrayMade(t *testing.T) {
	one.gives(t,
		[2]string{"typeof Array, Array.length, Array.prototype === Object.getPrototypeOf([]), Array.prototype.constructor === Array, Array.isArray(Array.prototype), Array.prototype.length, [] instanceof Array", "function 1 true true true 0 true"},
		[2]string{"Array().length, new Array().length, Array(0).length, Array(3).length, new Array(3).length, Array(-0).length, 1 / Array(-0).length, Array(4294967295).length, 0 in Array(3), Object.getOwnPropertyNames(Array(3))", "0 0 0 3 3 0 Infinity 4294967295 false length"},
		[2]string{"Array('3').length, Array('3')[0], Array(undefined).length, 0 in Array(undefined), Array(null).length, Array(true)[0], Array(Object(3)).length, Array([5])[0].length, new Array('a')", "1 3 1 true 1 true 1 1 a"},
		[2]string{"Array(1, 2), new Array(3, 4, 5), Array(-1, 1.5), Array(3, undefined).length, Array(undefined, undefined).length, Array.isArray(Array(1, 2)), Array(1, 2) instanceof Array", "1,2 3,4,5 -1,1.5 2 2 true true"},
		[2]string{"Array.isArray([]), Array.isArray(Array(3)), Array.isArray({length: 0}), Array.isArray(Object.create([])), Array.isArray(), Array.isArray(null), Array.isArray('a'), Array.isArray(Array), (function () { return Array.isArray(arguments) })(), Array.isArray.length", "true true false false false false false false false 1"},
	)
	one.fails(t, rangeError, "Array(-1)", "new Array(-1)", "Array(1.5)", "Array(NaN)", "Array(Infinity)", "new Array(4294967296)", "Array(-Infinity)", "new Array(0.1)")
	one.fails(t, typeError, "new Array.isArray([])", "Array.prototype = []", "Array.length = 2")
	one.takes(t, taken{"Array(1000000); new Array(5); Array(1, 2, 3); Array.isArray([1])", 0})
	// What stands behind Arrays does not matter.
	one.says(t, tell+"Object.defineProperty(Array.prototype, 0, {get: print, set: print}); var a = Array('x', 'y'); print(tell(a, 0), tell(a, 1), tell(a, 'length'))", "x:wec y:wec 2:w")
}

// P95: toLocaleString of Arrays.
func TestArrayLocaleText(t *testing.T) {
	one.gives(t,
		[2]string{"[].toLocaleString(), [1].toLocaleString(), [1, 'a', true, [2, 3], {}].toLocaleString(), [null, undefined, , 1].toLocaleString(), [1, 2].toLocaleString('-')", " 1 1,a,true,2,3,[object Object] ,,,1 1,2"},
		[2]string{"[{toLocaleString: function () { return 5 }, toString: 1}, {toString: function () { return 'mine' }}].toLocaleString(), Array.prototype.toLocaleString.call({length: 2, 0: 'a', 1: 'b'}), Array.prototype.toLocaleString.call('ab')", "5,mine a,b a,b"},
	)
	one.says(t, "Object.prototype.toLocaleString = function () { return typeof this + arguments.length }; print([1, 'a', {}].toLocaleString(7)); Object.getPrototypeOf(Object(1)).toLocaleString = function () { return {toString: function () { return 'again' }} }; print([1, 'a'].toLocaleString())", "object0,object0,object0", "again,object0")
	one.fails(t, typeError, "Array.prototype.toLocaleString.call(undefined)", "Array.prototype.toLocaleString.call(null)")
	one.ends(t,
		end{src: "[1, , 3].toLocaleString()", steps: 3},
		end{src: "[1, {toLocaleString: 5}, 3].toLocaleString()", steps: 2, text: typeError},
		end{src: "[1, Object.create(null)].toLocaleString()", steps: 2, text: typeError},
		end{src: "[{toLocaleString: function () { return {toString: 0, valueOf: 0} }}].toLocaleString()", steps: 2, text: typeError},
		end{src: "var l = {get length() { print('length'); return 2 }, get 0() { print('0') }, get 1() { print('1') }}; print(Array.prototype.toLocaleString.call(l))", steps: 5, lines: []string{"length", "0", "1", ","}},
	)
	s := "var s = " + of(4096, "a") + "; "
	one.ends(t, end{src: s + "[s, s].toLocaleString()", steps: 2, text: rangeError}, end{src: s + "[s, , s].toLocaleString()", steps: 3, text: rangeError}, end{src: s + "[, s].toLocaleString()", steps: 2})
	one.ends(t, end{src: "var s = " + of(8192, "a") + "; [s, {toLocaleString: function () { print('no') }}].toLocaleString()", steps: 2, text: rangeError})
}

// P95: concat.
func TestConcat(t *testing.T) {
	one.says(t, all+"print(all([].concat()), all([1, 2].concat()), all([1].concat(2, 'a', [3, [4]], {})), all([, 1, ,].concat([, 2, ,], [])), all([].concat(Array(3))), all([].concat(undefined, null)))", "[]0 [1,2]2 [1,2,a,3,4,[object Object]]6 [ ,1, , ,2, ]6 [ , , ]3 [undefined,null]2")
	one.says(t, all+"print(all([1].concat({length: 2, 0: 'x'})), all([].concat.call({length: 2}, 1)), all([].concat.call('ab', 'c')), all([].concat.call(5)), typeof [].concat.call(5)[0], all((function () { return [].concat(arguments) })(1, 2)))", "[1,[object Object]]2 [[object Object],1]2 [ab,c]2 [5]1 object [[object Arguments]]1")
	one.says(t, "var a = [1], b = a.concat(); print(a === b, Array.isArray(b)); b[0] = 2; print(a); var n = [[1]]; print(n.concat()[0] === n[0])", "false true", "1", "true")
	// Places that stand behind are items, too.
	one.says(t, all+"Array.prototype[1] = 'p'; print(all([1, , 3].concat([, ,]))); delete Array.prototype[1]", "[1,p,3, ,p]5")
	// They are defined, not put.
	one.says(t, tell+"Object.defineProperty(Array.prototype, 0, {get: print, set: print}); print(tell([9].concat(8), 0), tell([9].concat([8]), 1)); print(tell([].concat([, 7]), 1))", "9:wec 8:wec", "", "7:wec")
	one.takes(t, taken{"[1, 2].concat(3, {}, 'a')", 2}, taken{"[].concat([1, , 3], [], [4])", 4}, taken{"[].concat.call({length: 5}, 1)", 0}, taken{"[, ,].concat()", 2})
	// The length of an Array is asked when its turn comes.
	one.says(t, all+"var b = [1, 2], a = [0]; Object.defineProperty(a, 0, {get: function () { b.length = 1; b[0] = 'new'; return 'got' }}); print(all(a.concat(b, b)))", "[got,new,new]3")
	one.ends(t, end{src: "[1].concat([1, 2], Object.defineProperty([1, 2], 0, {get: function () { throw 5 }}))", steps: 5, text: "number 5"})
	one.fails(t, typeError, "[].concat.call(undefined, [1])", "[].concat.call(null)")
	if r := one.run("[1].concat(Array(4294967295))", 1000); r.How != api.Cut || r.Steps != 1000 {
		t.Errorf("%+v", r)
	}
}

// P95: pop and push.
func TestPopAndPush(t *testing.T) {
	one.says(t, all+"var a = [1, 2, , ]; print(a.pop(), all(a), a.pop(), all(a), a.pop(), a.pop(), all(a)); print(a.push(), a.push(5), a.push(6, undefined, [7]), all(a))", "undefined [1,2]2 2 [1]1 1 undefined []0", "0 1 4 [5,6,undefined,7]4")
	one.says(t, all+"var o = {length: 2, 0: 'a', 1: 'b'}; print([].pop.call(o), all(o), [].push.call(o, 'x', 'y'), all(o)); var e = {}; print([].pop.call(e), e.length, [].push.call(e, 1), e.length, e[0])", "b [a]1 3 [a,x,y]3", "undefined 0 1 1 1")
	one.says(t, "var o = {length: 4294967295}; print([].push.call(o, 1, 2), o.length, o[4294967295], o[4294967296]); o = {length: 4294967297, 0: 'a'}; print([].pop.call(o), o.length); o = {length: -1, 4294967294: 'z'}; print([].pop.call(o), o.length)", "4294967297 4294967297 1 2", "a 0", "z 4294967294")
	one.says(t, names+"var a = []; a.length = 4294967295; print(names(function () { a.push(1, 2) }), a.length, a[4294967295], a[4294967296], a.push()); a = [1]; a.length = 4294967294; print(names(function () { return a.push(1) }), names(function () { return a.push(2) }), a[4294967294], a[4294967295])", "RangeError 4294967295 1 2 4294967295", "4294967295 RangeError 1 2")
	one.says(t, logged+"var o = list({length: 2, 0: 'a', 1: 'b', 2: 0}); [].pop.call(o); print(told(), 1 in o); [].push.call(o, 'c', 'd'); print(told(), Object.keys(o))", "get length get 1 put length=1 false", "get length put 2=d put length=3 0,1,2,length")
	one.says(t, logged+"var o = list({length: 1, 1: 'x', 2: 'y'}); [].push.call(o, 'c', 'd'); print(told()); print([].push.call(o), told()); o = list({length: 0}); [].pop.call(o); print(told())", "get length put 1=c put 2=d put length=3", "3 get length put length=3", "get length put length=0")
	// What is found behind is given, and stays.
	one.says(t, all+"Array.prototype[0] = 'p'; var a = [, ]; print(a.pop(), a.length, Array.prototype[0])", "p 0 p")
	one.takes(t, taken{"[1, 2].push(3, 4); [1].pop(); [].pop(); [].push()", 0})
	// What can't be: what was done ahead of it stays.
	one.says(t, names+all+"var a = Object.seal([1, 2]); print(names(function () { a.pop() }), all(a)); a = Object.preventExtensions([1]); print(names(function () { a.push(2) }), all(a), a.pop(), all(a)); a = Object.defineProperty([1, 2], 'length', {writable: false}); print(names(function () { a.pop() }), all(a), names(function () { a.push() }), names(function () { a.push(1) }))", "TypeError [1,2]2", "TypeError [1]1 1 []0", "TypeError [1, ]2 TypeError TypeError")
	one.says(t, names+all+"var o = Object.freeze({length: 1}); print(names(function () { [].pop.call(o) })); o = Object.defineProperty({length: 1}, 2, {value: 'fixed'}); print(names(function () { [].push.call(o, 'a', 'b', 'c') }), Object.getOwnPropertyNames(o), o.length); print(names(function () { [].push.call('ab', 'c') }), names(function () { [].pop.call('ab') }), names(function () { [].pop.call('') }))", "TypeError", "TypeError 1,2,length 1", "TypeError TypeError TypeError")
	one.says(t, names+"print(names(function () { [].push.call(function (a) {}, 1) }), names(function () { [].pop.call(5) }), names(function () { return [].push.call(5, 1) }))", "TypeError undefined 1")
	one.fails(t, typeError, "[].pop.call(undefined)", "[].push.call(null, 1)", "[].push.call({length: {valueOf: 0, toString: 0}})")
}

// P95: reverse.
func TestReverse(t *testing.T) {
	one.says(t, all+"print(all([].reverse()), all([1].reverse()), all([1, 2].reverse()), all([1, 2, 3].reverse()), all([1, , 3, 4].reverse()), all([, 2].reverse()), all([1, , ].reverse()), all([, , 3].reverse()))", "[]0 [1]1 [2,1]2 [3,2,1]3 [4,3, ,1]4 [2, ]2 [ ,1]2 [3, , ]3")
	one.says(t, all+"var a = [1, 2], o = {length: 3, 0: 'a', 2: 'c', 3: 'd'}; print(a.reverse() === a, [].reverse.call(o) === o, all(o), o[3], typeof [].reverse.call(5))", "true true [c, ,a]3 d object")
	one.takes(t, taken{"[].reverse(); [1].reverse()", 0}, taken{"[1, 2].reverse()", 1}, taken{"[1, 2, 3].reverse()", 1}, taken{"Array(9).reverse()", 4})
	one.says(t, logged+"var o = list({length: 4, 0: 'a', 1: 'b', 2: 'c', 3: 'd'}); [].reverse.call(o); print(told()); o = list({length: 4, 0: 'a', 2: 'c'}); [].reverse.call(o); print(told(), Object.keys(o), o[1], o[3])", "get length get 0 get 3 put 0=d put 3=a get 1 get 2 put 1=c put 2=b", "get length get 0 get 2 1,3,length c a")
	// Has is asked behind both Gets.
	one.says(t, all+"var o = {length: 2, get 0() { delete o[1]; return 'a' }, 1: 'b'}; Object.defineProperty(o, 0, {set: function (v) { print('put', v) }}); [].reverse.call(o); print(Object.keys(o), o[1])", "1,length a")
	one.says(t, "var o = {length: 2, 0: 'a', get 1() { delete o[0]; return 'b' }}; Object.defineProperty(o, 1, {configurable: true}); [].reverse.call(o); print(Object.keys(o), o[0])", "0,length b")
	// Places that stand behind.
	one.says(t, all+"Array.prototype[0] = 'p'; var a = [, 2]; a.reverse(); print(a.hasOwnProperty(0), a.hasOwnProperty(1), all(a)); delete Array.prototype[0]; Array.prototype[1] = 'q'; a = [1, , ]; a.reverse(); print(all(a))", "true true [2,p]2", "[q,1]2")
	one.says(t, names+all+"var a = Object.freeze([1, 2]); print(names(function () { a.reverse() }), all(a)); a = Object.seal([1, , 3, 4]); print(names(function () { a.reverse() }), all(a)); a = [1, 2, 3, , ]; Object.defineProperty(a, 1, {writable: false}); print(names(function () { a.reverse() }), all(a)); print(names(function () { [].reverse.call('ab') }), all([].reverse.call('a')))", "TypeError [1,2]2", "TypeError [4, ,3,1]4", "TypeError [ ,2,3,1]4", "TypeError [a]1")
	one.fails(t, typeError, "[].reverse.call(undefined)", "[].reverse.call(null)")
	if r := one.run("[1].reverse.call({length: 4294967295})", 500); r.How != api.Cut || r.Steps != 500 {
		t.Errorf("%+v", r)
	}
}

// P95: shift and unshift.
func TestShiftAndUnshift(t *testing.T) {
	one.says(t, all+"var a = [1, , 3, 4, , ]; print(a.shift(), all(a), a.shift(), all(a), a.shift(), all(a), a.shift(), all(a), a.shift(), a.shift(), all(a))", "1 [ ,3,4, ]4 undefined [3,4, ]3 3 [4, ]2 4 [ ]1 undefined undefined []0")
	one.says(t, all+"var a = [3, , 5]; print(a.unshift(1, 2), all(a), a.unshift(), all(a), a.unshift([0]), all(a), [].unshift(), all([].concat()))", "5 [1,2,3, ,5]5 5 [1,2,3, ,5]5 6 [0,1,2,3, ,5]6 0 []0")
	one.says(t, all+"var o = {length: 3, 0: 'a', 2: 'c', 3: 'd'}; print([].shift.call(o), all(o), o[3], [].unshift.call(o, 'x', 'y'), all(o), o[3]); var e = {}; print([].shift.call(e), e.length, [].unshift.call(e, 1), all(e))", "a [ ,c]2 d 4 [x,y, ,c]4 c", "undefined 0 1 [1]1")
	one.takes(t, taken{"[].shift(); [1].shift(); [].unshift(1, 2)", 0}, taken{"[1, 2, 3].shift()", 2}, taken{"Array(5).shift()", 4}, taken{"[1, 2].unshift(3, 4, 5)", 2}, taken{"[1, , 3].unshift()", 3})
	one.says(t, logged+"var o = list({length: 3, 0: 'a', 1: 'b', 2: 'c'}); [].shift.call(o); print(told(), Object.keys(o)); o = list({length: 3, 0: 'a', 2: 'c'}); [].shift.call(o); print(told(), Object.keys(o), o[1]); o = list({length: 0}); [].shift.call(o); print(told())", "get length get 0 get 1 put 0=b get 2 put 1=c put length=2 0,1,length", "get length get 0 get 2 put length=2 1,length c", "get length put length=0")
	one.says(t, logged+"var o = list({length: 2, 0: 'a', 1: 'b', 2: 'c', 3: 'd'}); [].unshift.call(o, 'x', 'y'); print(told()); [].unshift.call(list({length: 1, 0: 'a'})); print(told()); o = list({length: 2, 1: 'b', 2: 0}); [].unshift.call(o, 'x'); print(told(), Object.keys(o))", "get length get 1 put 3=b get 0 put 2=a put 0=x put 1=y put length=4", "get length get 0 put 0=a put length=1", "get length get 1 put 2=b put length=3 0,2,length")
	// Places that stand behind are moved, and found again.
	one.says(t, all+"Array.prototype[1] = 'p'; var a = [1, , 3]; print(a.shift(), all(a)); a = [1, , ]; a.unshift(0); print(all(a))", "1 [p,3]2", "[0,1,p]3")
	// The object changes while it is gone through.
	one.says(t, all+"var a = [1, 2, 3, 4]; Object.defineProperty(a, 1, {get: function () { a.length = 3; return 'g' }, set: function (v) { print('put', v) }, configurable: true}); print(a.shift(), all(a))", "put 3", "1 [g,g, ]3")
	one.says(t, names+all+"var a = Object.freeze([1, 2]); print(names(function () { a.shift() }), names(function () { a.unshift(0) }), names(function () { a.unshift() }), all(a)); a = Object.seal([1, 2, 3]); print(names(function () { a.shift() }), all(a)); a = Object.preventExtensions([1, 2]); print(names(function () { a.unshift(0) }), all(a), a.shift(), all(a))", "TypeError TypeError TypeError [1,2]2", "TypeError [2,3,3]3", "TypeError [1,2]2 1 [2]1")
	one.says(t, names+all+"var a = [1, 2, , 4]; Object.defineProperty(a, 1, {configurable: false}); print(names(function () { a.shift() }), all(a)); a = [1, 2]; Object.defineProperty(a, 'length', {writable: false}); print(names(function () { a.shift() }), all(a), names(function () { a.unshift() }), names(function () { a.unshift(5) }), all(a)); print(names(function () { [].shift.call('ab') }), names(function () { [].unshift.call('', 1) }))", "TypeError [2,2, ,4]4", "TypeError [2, ]2 TypeError TypeError [5,2]2", "TypeError TypeError")
	one.says(t, "var o = {length: 4294967295, 4294967294: 'z'}; try { [].unshift.call(Object.defineProperty(o, 4294967294, {get: function () { throw 'asked' }}), 1) } catch (e) { print(e) }", "asked")
	one.fails(t, typeError, "[].shift.call(undefined)", "[].unshift.call(null)")
}

// P94, P95: slice, and From of its arguments.
func TestSlice(t *testing.T) {
	for _, c := range [][2]string{
		{"", "[a,b, ,d,e]5"}, {"0", "[a,b, ,d,e]5"}, {"undefined", "[a,b, ,d,e]5"}, {"2", "[ ,d,e]3"}, {"2, 4", "[ ,d]2"}, {"2, 3", "[ ]1"}, {"-2", "[d,e]2"}, {"-2, -1", "[d]1"}, {"-9, 1", "[a]1"}, {"3, 2", "[]0"}, {"5", "[]0"}, {"9", "[]0"}, {"0, 9", "[a,b, ,d,e]5"}, {"1, -9", "[]0"}, {"4, undefined", "[e]1"}, {"4, null", "[]0"}, {"NaN, 1", "[a]1"}, {"'3', '4'", "[d]1"}, {"1.9, 2.9", "[b]1"}, {"-1.9", "[e]1"}, {"-0.5, 1", "[a]1"}, {"-Infinity, Infinity", "[a,b, ,d,e]5"}, {"Infinity", "[]0"}, {"0, NaN", "[]0"}, {"4294967296", "[]0"}, {"-4294967296, 1", "[a]1"}, {"[3], {valueOf: function () { return 4 }}", "[d]1"},
	} {
		one.says(t, all+"print(all(['a', 'b', , 'd', 'e'].slice("+c[0]+")))", c[1])
	}
	one.says(t, all+"print(all([].slice.call({length: 3, 0: 'a', 2: 'c', 3: 'd'}, 1)), all([].slice.call('abc', 1, 2)), all([].slice.call(5)), all([].slice.call({length: 4294967295, 4294967294: 'z', 4294967295: 'no'}, -2)), (function () { return all([].slice.call(arguments, 1)) })(1, 2, 3)); var a = [1]; print(a.slice() === a, Array.isArray([].slice.call('a')))", "[ ,c]2 [b]1 []0 [ ,z]2 [2,3]2", "false true")
	one.takes(t, taken{"[1, 2, 3].slice()", 3}, taken{"[1, , 3].slice(1)", 2}, taken{"[1, 2, 3].slice(2, 1); [1, 2].slice(9)", 0}, taken{"[].slice.call({length: 4294967295}, -7)", 7})
	one.says(t, logged+"var o = list({length: 3, 0: 'a', 1: 'b', 2: 'c'}); [].slice.call(o, number('first', 1), number('second', 2)); print(told())", "get length first second get 1")
	one.says(t, tell+all+"Object.defineProperty(Array.prototype, 0, {get: function () { return 'p' }, set: print}); print(tell([1, 2].slice(1), 0), all([, 2].slice()))", "2:wec [p,2]2")
	one.says(t, all+"var a = [1, 2, 3, 4]; Object.defineProperty(a, 1, {get: function () { delete a[2]; a.length = 3; a[9] = 9; return 'g' }}); print(all(a.slice()))", "[1,g, , ]4")
	one.fails(t, typeError, "[].slice.call(undefined)", "[].slice.call(null)", "[1].slice({valueOf: 0, toString: 0})", "[1].slice(0, {valueOf: 0, toString: 0})")
}

// P95: splice.
func TestSplice(t *testing.T) {
	for _, c := range [][3]string{
		{"", "[]0", "[a,b, ,d,e]5"}, {"1", "[]0", "[a,b, ,d,e]5"}, {"1, undefined", "[]0", "[a,b, ,d,e]5"}, {"0, 9", "[a,b, ,d,e]5", "[]0"}, {"1, 2", "[b, ]2", "[a,d,e]3"}, {"1, 3, 'x'", "[b, ,d]3", "[a,x,e]3"}, {"1, 1, 'x', 'y', 'z'", "[b]1", "[a,x,y,z, ,d,e]7"}, {"1, 2, 'x', 'y'", "[b, ]2", "[a,x,y,d,e]5"}, {"-1, 1", "[e]1", "[a,b, ,d]4"}, {"-2, 1, 'x'", "[d]1", "[a,b, ,x,e]5"}, {"-9, 1", "[a]1", "[b, ,d,e]4"}, {"9, 1, 'x'", "[]0", "[a,b, ,d,e,x]6"}, {"2, -1, 'x'", "[]0", "[a,b,x, ,d,e]6"}, {"2, NaN", "[]0", "[a,b, ,d,e]5"}, {"3, Infinity", "[d,e]2", "[a,b, ]3"}, {"undefined, 1", "[a]1", "[b, ,d,e]4"}, {"1, '2'", "[b, ]2", "[a,d,e]3"}, {"1, 1.9, undefined", "[b]1", "[a,undefined, ,d,e]5"}, {"0, 0", "[]0", "[a,b, ,d,e]5"}, {"0, 1, [1, 2]", "[a]1", "[1,2,b, ,d,e]5"}, {"4, 1", "[e]1", "[a,b, ,d]4"}, {"0, 5, 'x'", "[a,b, ,d,e]5", "[x]1"}, {"2, 1", "[ ]1", "[a,b,d,e]4"}, {"-Infinity, 1", "[a]1", "[b, ,d,e]4"}, {"1, 4294967297", "[b, ,d,e]4", "[a]1"},
	} {
		one.says(t, all+"var a = ['a', 'b', , 'd', 'e'], b = a.splice("+c[0]+"); print(all(b)); print(all(a)); print(Array.isArray(b), a === b)", c[1], c[2], "true false")
	}
	one.says(t, all+"var o = {length: 4, 0: 'a', 2: 'c', 3: 'd', 4: 'e'}; print(all([].splice.call(o, 1, 2)), all(o), Object.keys(o)); print(all([].splice.call(o, 1, 0, 'x', 'y', 'z')), all(o)); var e = {}; print(all([].splice.call(e)), e.length, all([].splice.call(e, 3, 3, 'x')), all(e))", "[ ,c]2 [a,d]2 0,1,4,length", "[]0 [a,x,y,z,d]5", "[]0 0 []0 [x]1")
	one.says(t, "var o = {length: 4294967295, 4294967293: 'y', 4294967294: 'z'}; [].splice.call(o, -2, 1, 1, 2, 3); print(o.length, o[4294967293], o[4294967294], o[4294967295], o[4294967296]); [].splice.call(o, 0, 0); print(o.length)", "4294967297 1 2 3 z", "1")
	one.takes(t,
		taken{"[1, 2, 3].splice()", 0}, taken{"[1, 2, 3, 4, 5].splice(1, 2)", 6}, // two items go, two move, two are deleted
		taken{"[1, 2, 3, 4, 5].splice(1, 2, 'x')", 5}, taken{"[1, 2, 3, 4, 5].splice(1, 2, 'x', 'y')", 2}, taken{"[1, 2, 3, 4, 5].splice(1, 2, 'x', 'y', 'z')", 4}, taken{"[1, 2, 3].splice(0, 0, 1)", 3}, taken{"[1, 2, 3].splice(3, 0, 1, 2)", 0}, taken{"[1, 2, 3].splice(0, 9)", 6}, taken{"Array(6).splice(2, 1)", 5},
	)
	one.says(t, logged+"var o = list({length: 4, 0: 'a', 1: 'b', 2: 'c', 3: 'd'}); [].splice.call(o, number('first', 1), number('second', 2), 'x'); print(told(), Object.keys(o)); o = list({length: 3, 0: 'a', 1: 'b', 2: 'c', 3: 0, 4: 0}); [].splice.call(o, 1, 0, 'x', 'y'); print(told()); o = list({length: 2, 0: 'a', 1: 'b'}); [].splice.call(o, 0, 1, 'x'); print(told())",
		"get length first second get 1 get 2 get 3 put 2=d put 1=x put length=3 0,1,2,length", "get length get 2 put 4=c get 1 put 3=b put 1=x put 2=y put length=5", "get length get 0 put 0=x put length=2")
	one.says(t, logged+"var o = list({length: 4, 0: 'a', 2: 'c', 3: 'd'}); [].splice.call(o, 0, 1); print(told(), Object.keys(o)); o = list({length: 3, 1: 'b', 2: 0}); [].splice.call(o, 0, 0, 'x'); print(told(), Object.keys(o))", "get length get 0 get 2 get 3 put 2=d put length=3 1,2,length", "get length get 2 get 1 put 2=b put length=4 0,2,3,length")
	// What can't be: what was done ahead of it stays.
	one.says(t, names+all+"var a = Object.freeze([1, 2, 3]); print(names(function () { a.splice(0, 1) }), names(function () { a.splice(0, 0, 1) }), names(function () { a.splice(0, 0) }), all(a)); a = Object.seal([1, 2, 3]); print(names(function () { a.splice(0, 1) }), all(a)); a = Object.preventExtensions([1, 2, 3]); print(names(function () { a.splice(1, 0, 'x') }), all(a), all(a.splice(0, 2, 'x')), all(a)); print(names(function () { [].splice.call('abc', 0, 1) }), names(function () { [].splice.call('abc') }))", "TypeError TypeError TypeError [1,2,3]3", "TypeError [2,3,3]3", "TypeError [1,2,3]3 [1,2]2 [x,3]2", "TypeError TypeError")
	one.says(t, names+all+"var a = [1, 2, 3, 4, 5]; Object.defineProperty(a, 3, {configurable: false}); print(names(function () { a.splice(0, 3) }), all(a)); a = [1, 2, 3]; Object.defineProperty(a, 'length', {writable: false}); print(names(function () { a.splice(0, 1) }), all(a)); a = [1, 2, , 4]; Object.defineProperty(a, 1, {configurable: false}); print(names(function () { a.splice(0, 1) }), all(a))", "TypeError [4,5,3,4, ]5", "TypeError [2,3, ]3", "TypeError [2,2, ,4]4")
	one.says(t, all+tell+"Object.defineProperty(Array.prototype, 0, {get: function () { return 'p' }, set: function () { print('set') }}); var a = [1, 2, 3]; print(tell(a.splice(0, 1), 0), all(a)); var e = []; e.splice(0, 0, 'x'); print(e.hasOwnProperty(0), e.length)", "1:wec [2,3]2", "set", "false 1")
	one.fails(t, typeError, "[].splice.call(undefined)", "[].splice.call(null, 1, 1)", "[1].splice({valueOf: 0, toString: 0})", "[1].splice(0, {valueOf: 0, toString: 0})")
}

// P95: indexOf and lastIndexOf.
func TestIndexOf(t *testing.T) {
	for _, c := range [][3]string{
		{"1", "0", "4"}, {"2", "1", "3"}, {"'1'", "-1", "-1"}, {"undefined", "-1", "-1"}, {"", "-1", "-1"}, {"1, 1", "4", "0"}, {"2, 2", "3", "1"}, {"1, -1", "4", "4"}, {"1, -2", "4", "0"}, {"2, -3", "3", "1"}, {"1, -9", "0", "-1"}, {"1, -5", "0", "0"}, {"1, 9", "-1", "4"}, {"1, 5", "-1", "4"}, {"1, 4", "4", "4"}, {"1, 0", "0", "0"}, {"1, undefined", "0", "0"}, {"2, undefined", "1", "-1"}, {"1, NaN", "0", "0"}, {"1, null", "0", "0"}, {"1, '1'", "4", "0"}, {"2, 1.9", "1", "1"}, {"1, -1.5", "4", "4"}, {"1, -0.5", "0", "0"}, {"1, Infinity", "-1", "4"}, {"1, -Infinity", "0", "-1"}, {"1, 4294967296", "-1", "4"}, {"2, -4294967300", "1", "-1"},
	} {
		one.says(t, "var a = [1, 2, , 2, 1]; print(a.indexOf("+c[0]+"), a.lastIndexOf("+c[0]+"))", c[1]+" "+c[2])
	}
	one.gives(t,
		[2]string{"[NaN].indexOf(NaN), [0].indexOf(-0), [-0].lastIndexOf(0), [undefined].indexOf(), [undefined, , ].lastIndexOf(), [, ].indexOf(undefined), [null].indexOf(undefined), [true].indexOf(1), ['a'].lastIndexOf('a'), [[]].indexOf([])", "-1 0 0 0 0 -1 -1 -1 0 -1"},
		[2]string{"[].indexOf(1), [].lastIndexOf(1), [].indexOf(), [].lastIndexOf(undefined, 0), [].indexOf.call('abcb', 'b'), [].lastIndexOf.call('abcb', 'b'), [].indexOf.call({length: 2, 1: 'x', 2: 'y'}, 'y'), [].lastIndexOf.call({length: 4294967295, 4294967294: 'z'}, 'z'), [].indexOf.call({length: 4294967295, 4294967293: 'z'}, 'z', -3), [].indexOf.call(5, 1)", "-1 -1 -1 -1 1 3 -1 4294967294 4294967293 -1"},
	)
	one.says(t, "var o = {}, a = [{}, o, o]; print(a.indexOf(o), a.lastIndexOf(o), a.indexOf({})); Array.prototype[1] = 'p'; print([1, , 3].indexOf('p'), [1, , 3].lastIndexOf('p'))", "1 2 -1", "1 1")
	one.takes(t, taken{"[1, 2, 3].indexOf(2)", 2}, taken{"[1, 2, 3].indexOf(9)", 3}, taken{"[1, 2, 3].lastIndexOf(2)", 2}, taken{"Array(4).lastIndexOf()", 4}, taken{"[1, 2, 3].indexOf(9, 1)", 2}, taken{"[1, 2, 3].lastIndexOf(9, 1)", 2}, taken{"[1, 2].indexOf(1, 5); [1, 2].lastIndexOf(1, -5)", 0}, taken{"[1, , 1].lastIndexOf(1, -2)", 2})
	// The second argument is asked only of a list that is not empty, behind the length.
	one.says(t, logged+"[].indexOf(1, number('no', 0)); [].lastIndexOf(1, number('no', 0)); var o = list({length: 3, 0: 'a', 1: 'b', 2: 'c'}); [].indexOf.call(o, 'b', number('from', 0)); print(told()); [].lastIndexOf.call(o, 'b', number('from', 5)); print(told())", "get length from get 0 get 1", "get length from get 2 get 1")
	one.says(t, "var a = [1, 2, 3]; Object.defineProperty(a, 0, {get: function () { a.length = 1; return 0 }}); print(a.indexOf(3), a.length); a = [7, 7, 7]; Object.defineProperty(a, 2, {get: function () { delete a[1]; return 0 }}); print(a.lastIndexOf(7))", "-1 1", "0")
	one.fails(t, typeError, "[].indexOf.call(undefined, 1)", "[].lastIndexOf.call(null, 1)", "[1].indexOf(1, {valueOf: 0, toString: 0})", "[1].lastIndexOf(1, {valueOf: 0, toString: 0})")
}

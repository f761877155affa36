package ecmacore_test

import (
	"fmt"
	"strings"
	"testing"

	"ecmacore/api"
	"ecmacore/ecmacore"
)

const one = level(1)

// tell(o, key) tells an own property: its value or functions, and its flags.
const tell = `function tell(o, k) { var d = Object.getOwnPropertyDescriptor(o, k); return d && ('value' in d ? d.value + ':' : typeof d.get + '/' + typeof d.set + ':') + (d.writable ? 'w' : '') + (d.enumerable ? 'e' : '') + (d.configurable ? 'c' : '') } `

// names(f) tells the name of the error that f throws, or what it gives.
const names = `function names(f) { try { return f() } catch (e) { return e.name } } `

// P90: Object, called and with new.
func TestObjectMade(t *testing.T) {
	one.gives(t,
		[2]string{"typeof Object, Object.length, Object.prototype === Object.getPrototypeOf({}), Object.prototype.constructor === Object, this.Object === Object", "function 1 true true true"},
		[2]string{"Object(), Object(undefined), Object(null), new Object, new Object(undefined), new Object(null)", "[object Object] [object Object] [object Object] [object Object] [object Object] [object Object]"},
		[2]string{"Object() === Object(), Object.getPrototypeOf(Object(null)) === Object.prototype, Object.keys(new Object).length, Object.isExtensible(Object())", "false true 0 true"},
		[2]string{"typeof Object(5), Object(5) + 1, new Object('ab').length, Object('ab')[1], Object(true).valueOf(), {}.toString.call(new Object(false))", "object 6 2 b true [object Boolean]"},
		[2]string{"Object(print) === print, new Object(Object) === Object, Object(this) === this, Object(5) === Object(5), Object(5) instanceof Object", "true true true false true"},
		[2]string{"{}.toString.call(Object('')), {}.toString.call(Object(0)), Object(1, 2) + 0, Object([]) instanceof Array", "[object String] [object Number] 1 true"},
	)
	one.says(t, "var o = {}; print(Object(o) === o, new Object(o) === o); var u; print(Object(u) === u)", "true true", "false")
	one.fails(t, typeError, "Object.prototype = {}", "delete Object.prototype", "Object.length = 2")
}

// P90: the first argument must be an object; that is asked ahead of all else.
func TestObjectNeeded(t *testing.T) {
	for _, name := range []string{"getPrototypeOf", "getOwnPropertyDescriptor", "getOwnPropertyNames", "defineProperty", "defineProperties", "seal", "freeze", "preventExtensions", "isSealed", "isFrozen", "isExtensible", "keys"} {
		for _, v := range []string{"", "undefined", "null", "5", "'a'", "true", "NaN"} {
			one.fails(t, typeError, "Object."+name+"("+v+")")
		}
		one.fails(t, typeError, "Object."+name+"(5, {toString: function () { print('no') }}, {get value() { print('no') }})")
		one.fails(t, typeError, "new Object."+name+"({})")
	}
	one.fails(t, typeError, "Object.create()", "Object.create(undefined)", "Object.create(5)", "Object.create('a', {})", "Object.create(true, {get a() { print('no') }})", "new Object.create({})")
}

// P90: what stands behind an object.
func TestBehind(t *testing.T) {
	one.gives(t,
		[2]string{"Object.getPrototypeOf(Object.prototype), Object.getPrototypeOf([]) === Array.prototype, Object.getPrototypeOf(print) === Function.prototype, Object.getPrototypeOf(Array.prototype) === Object.prototype", "null true true true"},
		[2]string{"Object.getPrototypeOf(Object.create(null)), Object.getPrototypeOf(Object.create(print)) === print, typeof Object.create(print), {}.toString.call(Object.create([]))", "null true object [object Object]"},
		[2]string{"Object.getPrototypeOf(TypeError.prototype) === Error.prototype, Object.getPrototypeOf(this) === Object.prototype, Object.getPrototypeOf(new TypeError) === TypeError.prototype", "true true true"},
		[2]string{"Object.create([1, 2]).length, Object.create({x: 1}).x, 'toString' in Object.create(null), Object.create(null).toString", "2 1 false undefined"},
	)
	one.says(t, "var o = {get x() { return this.y }, y: 1}, p = Object.create(o); p.y = 2; print(p.x, Object.keys(p))", "2 y")
	one.says(t, "var o = Object.create([1, 2]); o[2] = 3; print(o.length, Object.keys(o)); o.length = 9; print(o.length, Object.getPrototypeOf(o).length, o.hasOwnProperty('length'))", "2 2", "9 2 true")
	one.says(t, "function P(x) { this.x = x } P.prototype = Object.create(null, {y: {value: 1}}); var p = new P(2); print(p.x, p.y, p instanceof P, p instanceof Object)", "2 1 true false")
	one.fails(t, typeError, "Object.create(null) + ''", "+Object.create(null)", "print(Object.create(null))", "Object.create({}, null)")
}

// P90: create with properties, as defineProperties.
func TestCreate(t *testing.T) {
	one.says(t, tell+"var o = Object.create({z: 1}, {a: {value: 1}, b: {value: 2, enumerable: true, writable: true, configurable: true}, c: {get: print}}); print(tell(o, 'a'), tell(o, 'b'), tell(o, 'c'), tell(o, 'z'))", "1: 2:wec function/undefined: undefined")
	one.gives(t,
		[2]string{"Object.keys(Object.create({}, {b: {enumerable: true}, 1: {enumerable: true}, a: {enumerable: 1}, c: {}}))", "1,b,a"},
		[2]string{"Object.getOwnPropertyNames(Object.create({}, undefined)).length, Object.getOwnPropertyNames(Object.create({}, 5)).length, Object.getOwnPropertyNames(Object.create({}, true)).length, Object.getOwnPropertyNames(Object.create({}, '')).length", "0 0 0 0"},
	)
	one.fails(t, typeError, "Object.create({}, {a: 1})", "Object.create({}, 'a')", "Object.create({}, [1])", "Object.create({}, null)", "Object.create(null, {a: {get: 1}})")
}

// P90: all of a property is told, in that order, with all flags.
func TestDescriptor(t *testing.T) {
	one.says(t, "var d = Object.getOwnPropertyDescriptor({a: 5}, 'a'); for (var k in d) print(k, d[k]); print(Object.getPrototypeOf(d) === Object.prototype); for (k in d) print(d.propertyIsEnumerable(k), delete d[k])",
		"value 5", "writable true", "enumerable true", "configurable true", "true", "true true", "true true", "true true", "true true")
	one.says(t, "var d = Object.getOwnPropertyDescriptor({set a(v) {}}, 'a'); for (var k in d) print(k, typeof d[k]); d.get = 1; d.more = 2; print(d.get, Object.keys(d))",
		"get undefined", "set function", "enumerable boolean", "configurable boolean", "1 get,set,enumerable,configurable,more")
	one.says(t, tell+"print(tell([1, 2], 'length'), tell([1, , 2], 1), tell([1], '0'), tell([1], 0), tell(print, 'length'), tell(function (a, b) {}, 'length'), tell(this, 'NaN'), tell(this, 'print'), tell(this, 'tell'))", "2:w undefined 1:wec 1:wec 1: 2: NaN: function () { [code] }:wc function () { [code] }:we")
	one.says(t, tell+"var f = function () {}; print(tell(f, 'prototype'), tell(f.prototype, 'constructor') , tell(Object, 'prototype'), tell(Object('ab'), 1), tell(Object('ab'), 2), tell(Object('ab'), 'length'), tell({}, 'toString'), tell({undefined: 1}), tell({1: 2}, {toString: function () { return '1' }}))",
		"[object Object]:w function () { [code] }:wc [object Object]: b:e undefined 2: undefined 1:wec 2:wec")
	one.says(t, tell+"print((function (a) { return tell(arguments, 0) + ' ' + tell(arguments, 'length') })(7)); var x; this.y = 1; print(tell(this, 'x'), tell(this, 'y'))", "7:wec 1:wc", "undefined:we 1:wec")
	one.says(t, "var o = {get a() { print('no') }}, d = Object.getOwnPropertyDescriptor(o, 'a'), e = Object.getOwnPropertyDescriptor(o, 'a'); print(d === e, d.get === e.get)", "false true")
}

// P90: own keys, all and the enumerable ones: places first.
func TestKeys(t *testing.T) {
	one.gives(t,
		[2]string{"Object.keys({b: 1, 10: 1, a: 1, 9: 1, '': 1, '01': 1, '-1': 1, 4294967295: 1, 4294967294: 1})", "9,10,4294967294,b,a,,01,-1,4294967295"},
		[2]string{"Object.keys([7, , 8]), Object.getOwnPropertyNames([7, , 8]), Object.keys(Object('ab')), Object.getOwnPropertyNames(Object('ab')), Object.keys(print).length", "0,2 0,2,length 0,1 0,1,length 0"},
		[2]string{"Object.getOwnPropertyNames(function () {}), Object.getOwnPropertyNames(print), Object.getOwnPropertyNames(Error), Object.keys(new Error('m')), Object.getOwnPropertyNames(new Error('m'))", "length,prototype length length,prototype  message"},
		[2]string{"Array.isArray(Object.keys({})), Object.keys({}).length, Object.keys({a: 1}) === Object.keys({a: 1}), typeof Object.keys([1])[0], Object.keys({a: 1}).concat(1)", "true 0 false string a,1"},
	)
	one.says(t, "var o = Object.create({b: 1}, {a: {value: 1}, c: {value: 1, enumerable: true, configurable: true}}); print(Object.keys(o), Object.getOwnPropertyNames(o)); delete o.c; o.d = 1; o.c = 1; print(Object.keys(o), Object.getOwnPropertyNames(o))", "c a,c", "d,c a,d,c")
	one.says(t, "var s = Object('ab'); s[5] = s.x = s[2] = 1; print(Object.keys(s), Object.getOwnPropertyNames(s))", "0,1,2,5,x 0,1,2,5,length,x")
	one.says(t, "(function () { print(Object.keys(arguments), Object.getOwnPropertyNames(arguments)) })(1, 2)", "0,1 0,1,length")
	one.ends(t, end{src: "Object.keys([1, 2, 3]); Object.getOwnPropertyNames([1, 2]); Object.freeze([1, 2]); Object.isFrozen([1])", steps: 0})
	one.says(t, "var a = Object.keys({x: 1}); a[0] = 'y'; a.length = 0; Array.prototype[0] = 'p'; print(Object.keys({x: 1}))", "x")
	// What stands behind Arrays does not matter to a new one.
	one.says(t, "Object.defineProperty(Array.prototype, 0, {get: print, set: print}); print(Object.keys({x: 1})[0], Object.getOwnPropertyNames({y: 1}).hasOwnProperty(0))", "x true")
}

// P90: seal, freeze, preventExtensions and what asks for it.
func TestFixed(t *testing.T) {
	const o = tell + "var o = {v: 1, get g() { return 1 }, 5: 2}; Object.defineProperty(o, 'h', {value: 3, writable: true}); "
	const all = "print(tell(o, 'v'), tell(o, 'g'), tell(o, 5), tell(o, 'h'), Object.isSealed(o), Object.isFrozen(o), Object.isExtensible(o))"
	one.says(t, o+all, "1:wec function/undefined:ec 2:wec 3:w false false true")
	one.says(t, o+"print(Object.preventExtensions(o) === o); "+all, "true", "1:wec function/undefined:ec 2:wec 3:w false false false")
	one.says(t, o+"print(Object.seal(o) === o); "+all, "true", "1:we function/undefined:e 2:we 3:w true false false")
	one.says(t, o+"print(Object.freeze(o) === o); "+all, "true", "1:e function/undefined:e 2:e 3: true true false")
	one.gives(t,
		[2]string{"Object.isSealed({}), Object.isFrozen({}), Object.isExtensible({}), Object.isFrozen(Object.preventExtensions({})), Object.isSealed(Object.preventExtensions({}))", "false false true true true"},
		[2]string{"Object.isFrozen(Object.preventExtensions([])), Object.isSealed(Object.preventExtensions([])), Object.isFrozen(Object.preventExtensions(Object('')))", "false true true"},
		[2]string{"Object.isFrozen(Object.preventExtensions(Object('ab'))), Object.isFrozen(Object.freeze(Object('ab'))), Object.isSealed(Object.preventExtensions({a: 1})), Object.isFrozen(Object.preventExtensions({a: 1}))", "true true false false"},
		[2]string{"Object.isFrozen(Object.freeze(Object.freeze({a: 1}))), Object.isSealed(Object.seal(Object.freeze([1]))), Object.isFrozen(Object.freeze(Object.seal([1]))), Object.isFrozen(Object.freeze(function () {}))", "true true true true"},
		[2]string{"Object.isFrozen(Object.preventExtensions(print)), Object.isFrozen(Object.create(Object.freeze({a: 1}))), Object.isExtensible(Object.create(Object.freeze({})))", "true false true"},
	)
	one.says(t, "var o = Object.preventExtensions(Object.defineProperty({}, 'a', {value: 1, configurable: true})); print(Object.isSealed(o), Object.isFrozen(o)); Object.defineProperty(o, 'a', {configurable: false}); print(Object.isSealed(o), Object.isFrozen(o))", "false false", "true true")
	one.says(t, "var o = Object.preventExtensions(Object.defineProperty({}, 'a', {value: 1, writable: true})); print(Object.isSealed(o), Object.isFrozen(o))", "true false")
	one.says(t, "var o = Object.preventExtensions({a: 1}); o.a = 2; print(o.a, delete o.a, o.a, 'a' in o)", "2 true undefined false")
	one.says(t, "var o = Object.seal({a: 1}); o.a = 2; print(o.a); var f = Object.freeze({o: {x: 1}}); f.o.x = 2; print(f.o.x)", "2", "2")
	one.says(t, "var s = 0, o = Object.freeze({get a() { return s }, set a(v) { s = v }}); o.a = 5; print(o.a)", "5")
	one.fails(t, typeError, "Object.preventExtensions({}).a = 1", "Object.preventExtensions([1])[1] = 1", "Object.seal({}).a = 1", "Object.freeze({a: 1}).a = 1", "Object.freeze([1])[0] = 1", "Object.freeze([1]).length = 1", "delete Object.seal({a: 1}).a", "delete Object.freeze([1])[0]", "Object.freeze([1]).push(2)", "Object.freeze([]).push()", "Object.freeze([]).pop()", "Object.freeze(Object.create({get a() { return 1 }})).a = 1", "Object.defineProperty(Object.freeze({a: 1}), 'a', {value: 2})", "Object.defineProperty(Object.preventExtensions({}), 'a', {})", "Object.preventExtensions(this); this.x = 1")
	one.fails(t, referenceError, "Object.preventExtensions(this); x = 1")
	// A program in a world whose global object is fixed.
	w := ecmacore.New(1)
	w.Run("var x = 1; Object.preventExtensions(this)", api.Limits{})
	for src, want := range map[string]string{"x = 2; var x; print(x)": "", "var y": typeError, "function f() {}": typeError, "print(x); var y": typeError, "function x() {} print(typeof x)": ""} {
		if r := w.Run(src, api.Limits{}); r.Text != want || want != "" && r.Lines != nil {
			t.Errorf("%s: %+v", src, r)
		}
	}
}

// P91: what an object tells of a property.
func TestTold(t *testing.T) {
	const log = tell + "var q = ''; function log(d) { var l = {}; Object.keys(d).forEach(function (k) { Object.defineProperty(l, k, {get: function () { q += k + ' '; return d[k] }}) }); return l } "
	one.says(t, log+"var o = {}; Object.defineProperty(o, 'a', log({set: print, get: print, configurable: 0, enumerable: 1})); print(q, tell(o, 'a'))", "enumerable configurable get set  function/function:e")
	one.says(t, log+"var o = {}; Object.defineProperty(o, 'a', log({writable: 'x', value: 7, configurable: {}, enumerable: ''})); print(q, tell(o, 'a'))", "enumerable configurable value writable  7:wc")
	one.says(t, log+"try { Object.defineProperty({}, 'a', log({get: 1, set: 1, value: 1, writable: 1, enumerable: 1, configurable: 1})) } catch (e) { print(e.name, q) }", "TypeError enumerable configurable value writable get ")
	one.says(t, log+"try { Object.defineProperty({}, 'a', log({get: print, set: 1, value: 1})) } catch (e) { print(e.name, q) }", "TypeError value get set ")
	one.says(t, log+"try { Object.defineProperty({}, 'a', log({get: undefined, set: undefined, writable: false})) } catch (e) { print(e.name, q) }", "TypeError writable get set ")
	one.says(t, log+"function key() { return {toString: function () { q += 'key '; return 'a' }, valueOf: print} } Object.defineProperty({}, key(), log({value: 1})); try { Object.defineProperty({}, key()) } catch (e) { print(e.name, q) }", "TypeError key value key ")
	// What it has not counts for nothing; what stands behind it counts.
	one.says(t, tell+"var o = Object.defineProperty({}, 'a', {}); print(tell(o, 'a')); o = Object.defineProperty({}, 'a', Object.create({value: 1, writable: true}, {enumerable: {value: true}})); print(tell(o, 'a')); o = Object.defineProperty({}, 'a', {get: undefined}); print(tell(o, 'a'))", "undefined:", "1:we", "undefined/undefined:")
	one.says(t, tell+"Object.prototype.value = 9; Object.prototype.enumerable = 1; print(tell(Object.defineProperty({}, 'a', {}), 'a')); Object.prototype.get = print; try { Object.defineProperty({}, 'a', {}) } catch (e) { print(e.name) }", "9:e", "TypeError")
	one.says(t, tell+"function d() {} d.value = 1; var a = []; a.enumerable = true; print(tell(Object.defineProperty({}, 'a', d), 'a'), tell(Object.defineProperty({}, 'a', a), 'a'), tell(Object.defineProperty({}, 'a', Error('m')), 'a'))", "1: undefined:e undefined:")
	for _, d := range []string{"", ", undefined", ", null", ", 5", ", 'a'", ", true", ", {get: null}", ", {get: {}}", ", {set: 'a'}", ", {set: 0}", ", {get: print, value: 1}", ", {set: print, writable: true}", ", {get: undefined, value: undefined}", ", {set: undefined, writable: undefined}"} {
		one.says(t, names+"var o = {a: 1}; print(names(function () { Object.defineProperty(o, 'b'"+d+") }), 'b' in o)", "TypeError false")
		if d != "" {
			one.fails(t, typeError, "Object.defineProperties({}, {a: {}"+strings.Replace(d, ",", ", b:", 1)+"})")
		}
	}
}

// P90: defineProperty gives the object; the key is taken for a string, whatever it is.
func TestDefineProperty(t *testing.T) {
	one.says(t, "var o = {}; print(Object.defineProperty(o, 'a', {value: 1}) === o, o.a, Object.keys(o).length); Object.defineProperty(o, undefined, {value: 2}); Object.defineProperty(o, null, {}); Object.defineProperty(o, 1.5, {}); Object.defineProperty(o, -0, {}); Object.defineProperty(o, [[3]], {}); print(Object.getOwnPropertyNames(o))", "true 1 0", "0,3,a,undefined,null,1.5")
	one.fails(t, typeError, "Object.defineProperty({})", "Object.defineProperty({}, 'a')", "Object.defineProperty({}, {toString: 0, valueOf: 0}, {})")
}

// P92: several are told ahead of the first that is defined; they are defined in order.
func TestDefineProperties(t *testing.T) {
	one.says(t, tell+"var o = {}; print(Object.defineProperties(o, {b: {value: 1, writable: true}, a: {get: print}, 3: {value: 2, enumerable: true}, 1: {}}) === o, Object.getOwnPropertyNames(o)); print(tell(o, 'a'), tell(o, 'b'), tell(o, 1), tell(o, 3))", "true 1,3,b,a", "function/undefined: 1:w undefined: 2:e")
	one.says(t, names+"var o = {}, p = {a: {value: 1}, get b() { print('b', 'a' in o); return {value: 2} }, get c() { print('c', 'b' in o); return 5 }, get d() { print('no') }}; print(names(function () { Object.defineProperties(o, p) }), Object.getOwnPropertyNames(o).length)", "b false", "c false", "TypeError 0")
	for _, d := range []string{"{get: print, value: 1}", "{set: print, value: 1}", "{get: print, writable: true}", "{set: undefined, writable: false}", "{get: undefined, set: print, value: 1, writable: true}"} {
		one.says(t, names+"var o = {}; print(names(function () { Object.defineProperties(o, {a: {value: 1}, b: "+d+"}) }), Object.getOwnPropertyNames(o).length)", "TypeError 0")
	}
	// What was defined ahead of one that can't be stays.
	one.says(t, names+"var o = Object.defineProperty({}, 'b', {value: 1}); print(names(function () { Object.defineProperties(o, {a: {value: 1}, b: {value: 2}, c: {value: 3}}) }), Object.getOwnPropertyNames(o), o.b)", "TypeError b,a 1")
	one.says(t, names+"var a = [1, 2]; print(names(function () { Object.defineProperties(a, {x: {value: 1}, length: {value: -1}, y: {value: 1}}) }), 'x' in a, 'y' in a, a.length)", "RangeError true false 2")
	// Own enumerable keys alone.
	one.says(t, "var p = Object.create({z: {value: 1}}, {a: {value: 5}, b: {value: {value: 1}, enumerable: true}}); print(Object.getOwnPropertyNames(Object.defineProperties({}, p)))", "b")
	// They are gathered first.
	one.says(t, "var p = {get a() { p.c = 1; return {} }, b: {}}; print(Object.getOwnPropertyNames(Object.defineProperties({}, p)))", "a,b")
	one.says(t, names+"var o = {}, p = {get a() { delete p.b; return {} }, b: {}}; print(names(function () { Object.defineProperties(o, p) }), 'a' in o)", "TypeError false")
	one.gives(t, [2]string{"Object.defineProperties([1], {}), Object.defineProperties([2], 5), Object.defineProperties([3], true), Object.defineProperties([4], ''), Object.defineProperties([5], [{value: 6}]), Object.defineProperties([7], print)", "1 2 3 4 6 7"})
	one.fails(t, typeError, "Object.defineProperties({})", "Object.defineProperties({}, undefined)", "Object.defineProperties({}, null)", "Object.defineProperties({}, 'a')", "Object.defineProperties({}, [1])", "Object.defineProperties({}, {a: undefined})")
}

// P62, P63, P76 by defineProperty.
func TestDefined(t *testing.T) {
	for _, c := range []struct{ first, then, want string }{
		{"{}", "{value: 1}", "TypeError undefined:"}, {"{}", "{value: undefined, writable: false, enumerable: false, configurable: false}", "undefined:"}, {"{}", "{}", "undefined:"},
		{"{value: 1}", "{value: 1}", "1:"}, {"{value: 1}", "{value: 2}", "TypeError 1:"}, {"{value: 1}", "{value: '1'}", "TypeError 1:"}, {"{value: 1}", "{writable: true}", "TypeError 1:"}, {"{value: 1}", "{enumerable: true}", "TypeError 1:"}, {"{value: 1}", "{configurable: true}", "TypeError 1:"}, {"{value: 1}", "{get: undefined}", "TypeError 1:"},
		{"{value: 1, writable: true}", "{value: 2}", "2:w"}, {"{value: 1, writable: true}", "{writable: false, value: 3}", "3:"}, {"{value: 1, writable: true}", "{enumerable: true, value: 3}", "TypeError 1:w"},
		{"{value: NaN}", "{value: NaN}", "NaN:"}, {"{value: 0}", "{value: -0}", "TypeError 0:"}, {"{value: -0}", "{value: -0}", "0:"}, {"{value: 'a'}", "{value: 'a'}", "a:"}, {"{value: K}", "{value: K}", "[object Object]:"}, {"{value: K}", "{value: {}}", "TypeError [object Object]:"}, {"{value: null}", "{value: undefined}", "TypeError null:"}, {"{value: true}", "{value: 1}", "TypeError true:"},
		{"{value: 1, configurable: true}", "{value: 2}", "2:c"}, {"{value: 1, configurable: true}", "{writable: true, enumerable: true}", "1:wec"}, {"{value: 1, configurable: true}", "{configurable: false}", "1:"}, {"{value: 1, writable: true, enumerable: true, configurable: true}", "{get: F}", "function/undefined:ec"}, {"{value: 1, configurable: true}", "{set: undefined}", "undefined/undefined:c"},
		{"{get: F, enumerable: true, configurable: true}", "{value: 1}", "1:ec"}, {"{get: F, configurable: true}", "{writable: true}", "undefined:wc"}, {"{get: F, configurable: true}", "{set: F}", "function/function:c"}, {"{get: F, set: F, configurable: true}", "{get: undefined}", "undefined/function:c"}, {"{get: F, configurable: true}", "{enumerable: true}", "function/undefined:ec"},
		{"{get: F}", "{get: F}", "function/undefined:"}, {"{get: F}", "{get: K.f}", "TypeError function/undefined:"}, {"{get: F}", "{set: undefined}", "function/undefined:"}, {"{get: F}", "{set: F}", "TypeError function/undefined:"}, {"{get: F}", "{value: 1}", "TypeError function/undefined:"}, {"{get: F}", "{writable: false}", "TypeError function/undefined:"}, {"{set: F}", "{get: undefined, set: F, enumerable: false, configurable: false}", "undefined/function:"},
	} {
		for _, key := range []string{"'a'", "7"} {
			for _, object := range []string{"{}", "[]", "print", "Object('abc')"} {
				src := fmt.Sprintf("%svar F = function () {}, K = {f: print}, o = %s, s = ''; Object.defineProperty(o, %s, %s); try { Object.defineProperty(o, %s, %s) } catch (e) { s = e.name + ' ' } print(s + tell(o, %s))", tell, object, key, c.first, key, c.then, key)
				one.says(t, src, c.want)
			}
		}
	}
	one.says(t, tell+"var s = Object('ab'); Object.defineProperty(s, 0, {value: 'a'}); Object.defineProperty(s, 1, {enumerable: true, writable: false}); print(tell(s, 0), tell(s, 1))", "a:e b:e")
	one.fails(t, typeError, "Object.defineProperty(Object('ab'), 0, {value: 'b'})", "Object.defineProperty(Object('ab'), 0, {writable: true})", "Object.defineProperty(Object('ab'), 1, {enumerable: false})", "Object.defineProperty(Object('ab'), 1, {get: print})", "Object.defineProperty(Object('ab'), 'length', {value: 3})")
}

// P63, P76: an Array's places and length.
func TestDefinedLength(t *testing.T) {
	one.says(t, tell+"var a = []; Object.defineProperty(a, 3, {value: 1}); print(a.length, tell(a, 3)); Object.defineProperty(a, 4294967294, {}); print(a.length); Object.defineProperty(a, 4294967295, {value: 2}); print(a.length, a[4294967295])", "4 1:", "4294967295", "4294967295 2")
	one.says(t, tell+names+"var a = [0, 1, 2]; Object.defineProperty(a, 1, {configurable: false}); print(names(function () { Object.defineProperty(a, 'length', {value: 0}) }), a.length, a, tell(a, 'length')); print(names(function () { Object.defineProperty(a, 'length', {value: 1, writable: false}) }), tell(a, 'length'), a)", "TypeError 2 0,1 2:w", "TypeError 2: 0,1")
	one.says(t, tell+"var a = [0, 1, 2]; Object.defineProperty(a, 'length', {writable: false}); print(tell(a, 'length')); a[1] = 5; Object.defineProperty(a, 'length', {value: 3}); Object.defineProperty(a, 2, {enumerable: false}); print(a, delete a[2], a.length)", "3:", "0,5, true 3")
	one.says(t, tell+"var a = [0, 1, 2]; Object.defineProperty(a, 'length', {value: 1, writable: false}); print(tell(a, 'length'), a); a = [1]; Object.defineProperty(a, 'length', {value: '3'}); Object.defineProperty(a, 'length', {value: -0}); print(1 / a.length)", "1: 0", "Infinity")
	one.fails(t, rangeError, "Object.defineProperty([], 'length', {value: -1})", "Object.defineProperty([], 'length', {value: 1.5})", "Object.defineProperty([], 'length', {value: undefined})", "Object.defineProperty([], 'length', {value: 4294967296, enumerable: true})", "Object.defineProperty(Object.freeze([]), 'length', {value: NaN})")
	one.fails(t, typeError, "Object.defineProperty([], 'length', {enumerable: true})", "Object.defineProperty([], 'length', {configurable: true})", "Object.defineProperty([], 'length', {get: print})", "Object.defineProperty([1], 'length', {get: undefined})", "Object.defineProperty(Object.freeze([]), 'length', {value: 1})", "Object.defineProperty(Object.freeze([]), 'length', {writable: true})", "Object.defineProperty(Object.defineProperty([], 'length', {writable: false}), 0, {})", "Object.defineProperty(Object.preventExtensions([1]), 1, {})", "Object.defineProperty([], 'length', {value: {valueOf: 0, toString: 0}})")
	// It is taken for a number twice, ahead of what refuses it.
	one.ends(t,
		end{src: "var a = [1]; Object.defineProperty(a, 'length', {value: {valueOf: function () { print('v'); return 5 }}}); print(a.length)", steps: 2, lines: []string{"v", "v", "5"}},
		end{src: "Object.defineProperty(Object.freeze([1]), 'length', {value: {valueOf: function () { print('v'); return 5 }}})", steps: 2, lines: []string{"v", "v"}, text: typeError},
		end{src: "var n = 0; Object.defineProperty([], 'length', {value: {valueOf: function () { return n++ }}})", steps: 2, text: rangeError},
	)
}

// P92: what Object's prototype has from level 1 on.
func TestObjectPrototype(t *testing.T) {
	one.gives(t,
		[2]string{"{}.toLocaleString(), [1, 2].toLocaleString(), (5).toLocaleString(), 'a'.toLocaleString(), {toString: function () { return 7 }}.toLocaleString() === 7, print.toLocaleString()", "[object Object] 1,2 5 a true function () { [code] }"},
		[2]string{"{a: 1}.hasOwnProperty('a'), {a: 1}.hasOwnProperty('toString'), [1].hasOwnProperty(0), [1].hasOwnProperty(1), [1].hasOwnProperty('length'), 'ab'.hasOwnProperty(1), 'ab'.hasOwnProperty('length'), (5).hasOwnProperty('x')", "true false true false true true true false"},
		[2]string{"{undefined: 1}.hasOwnProperty(), {get a() { print('no') }}.hasOwnProperty('a'), {1: 1}.hasOwnProperty([1]), {'': 1}.hasOwnProperty([])", "true true true true"},
		[2]string{"Object.prototype.isPrototypeOf({}), Object.prototype.isPrototypeOf(Object.prototype), Array.prototype.isPrototypeOf([]), Error.prototype.isPrototypeOf(new TypeError), {}.isPrototypeOf({}), print.isPrototypeOf(print)", "true false true true false false"},
		[2]string{"Object.prototype.isPrototypeOf(5), Object.prototype.isPrototypeOf(), Object.prototype.isPrototypeOf('a'), Object.prototype.isPrototypeOf(null), Object.prototype.isPrototypeOf.call(undefined, 5), Object.prototype.isPrototypeOf(Object.create(null)), 'a'.isPrototypeOf(Object('a'))", "false false false false false false false"},
		[2]string{"{a: 1}.propertyIsEnumerable('a'), {a: 1}.propertyIsEnumerable('b'), [1].propertyIsEnumerable(0), [1].propertyIsEnumerable('length'), {}.propertyIsEnumerable('toString'), 'a'.propertyIsEnumerable(0), 'a'.propertyIsEnumerable('length'), Object.create({a: 1}).propertyIsEnumerable('a')", "true false true false false true false false"},
		[2]string{"{}.toLocaleString.length, {}.hasOwnProperty.length, {}.isPrototypeOf.length, {}.propertyIsEnumerable.length", "0 1 1 1"},
	)
	one.says(t, "var o = Object.create(null), p = Object.create(o), q = Object.create(p), is = Object.prototype.isPrototypeOf; print(is.call(o, q), is.call(p, q), is.call(q, q), is.call(q, o))", "true true false false")
	// toLocaleString is called on the object.
	one.says(t, "Object.getPrototypeOf(Object('')).toString = function () { return typeof this + arguments.length }; print('a'.toLocaleString(1, 2), Object.prototype.toLocaleString.call('b', 3))", "object0 object0")
}

// P92: in which order the argument and this are taken.
func TestObjectPrototypeOrder(t *testing.T) {
	const key = "var key = {toString: function () { print('key'); return 'a' }}; "
	for _, name := range []string{"hasOwnProperty", "propertyIsEnumerable"} {
		one.ends(t,
			end{src: key + "Object.prototype." + name + ".call(undefined, key)", text: typeError, steps: 1, lines: []string{"key"}},
			end{src: key + "Object.prototype." + name + ".call(null, key)", text: typeError, steps: 1, lines: []string{"key"}},
			end{src: key + "print({a: 1}." + name + "(key))", steps: 1, lines: []string{"key", "true"}},
		)
		one.fails(t, typeError, "({})."+name+"({toString: 0, valueOf: 0})")
	}
	one.fails(t, typeError, "Object.prototype.isPrototypeOf.call(undefined, {})", "Object.prototype.isPrototypeOf.call(null, [])", "Object.prototype.toLocaleString.call(undefined)", "Object.prototype.toLocaleString.call(null)", "({toString: 5}).toLocaleString()", "Object.create(null, {f: {value: Object.prototype.toLocaleString}}).f()")
}

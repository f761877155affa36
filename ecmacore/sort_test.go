package ecmacore_test

import (
	"fmt"
	"math/rand/v2"
	"slices"
	"strings"
	"testing"

	"ecmacore/api"
)

// P95: what sort does to a list.
func TestSort(t *testing.T) {
	one.says(t, all+"print(all([].sort()), all([1].sort()), all([2, 1].sort()), all([10, 9, 1, 2].sort()), all(['b', undefined, 'a'].sort()), all([3, , 1, undefined, , 2].sort()), all([, ,].sort()), all([undefined, , undefined].sort()))", "[]0 [1]1 [1,2]2 [1,10,2,9]4 [a,b,undefined]3 [1,2,3,undefined, , ]6 [ , ]2 [undefined,undefined, ]3")
	one.says(t, all+"print(all([true, null, 'a', 5, [1, 2], {}, NaN, -1, ''].sort()), all(['\\uffff', '\\ud83d\\ude00', 'a', 'B'].sort()), all(['a', 'A', 'aa', ''].sort(undefined)))", "[,-1,1,2,5,NaN,[object Object],a,null,true]9 [B,a,\U0001F600,\uffff]4 [,A,a,aa]4")
	one.says(t, all+"var a = [3, 1]; print(a.sort() === a); var o = {length: 4, 0: 'c', 2: 'a', 3: 'b', 4: 'x'}; print([].sort.call(o) === o, all(o), o[4], typeof [].sort.call(5))", "true", "true [a,b,c, ]4 x object")
	for _, c := range [][2]string{
		{"return a - b", "[1,2,9,10]4"}, {"return b - a", "[10,9,2,1]4"}, {"return 0", "[10,9,1,2]4"}, {"return 1", "[2,1,9,10]4"}, {"return -1", "[10,9,1,2]4"}, {"", "[10,9,1,2]4"}, {"return NaN", "[10,9,1,2]4"}, {"return a > b", "[1,2,9,10]4"}, {"return a > b ? '1' : '-1'", "[1,2,9,10]4"}, {"return a > b ? Infinity : -Infinity", "[1,2,9,10]4"}, {"return a > b ? 5e-324 : 0", "[1,2,9,10]4"}, {"return {valueOf: function () { return a - b }}", "[1,2,9,10]4"}, {"return 'x'", "[10,9,1,2]4"}, {"return null", "[10,9,1,2]4"},
	} {
		one.says(t, all+"print(all([10, 9, 1, 2].sort(function (a, b) { "+c[0]+" })))", c[1])
	}
	// Those that are equal stay in their order.
	one.says(t, "function kinds(l) { return l.map(function (x) { return typeof x }) } print(kinds([1, '1', Object(1), '1', 1].sort()), kinds(['2', 2, '1', 1].sort(function (a, b) { return a - b })))", "number,string,object,string,number string,number,string,number")
	// undefined comes last, whatever the function says, which never sees it.
	one.says(t, all+"print(all([undefined, 3, , null, 1].sort(function (a, b) { if (a === undefined || b === undefined) print('no'); return b - a })))", "[3,1,null,undefined, ]5")
	one.says(t, "[2, 1].sort(function () { print(this, arguments.length, arguments[0], arguments[1]) })", "undefined 2 2 1")
	one.says(t, "print([3, 1, 2].sort(print.bind(null, 'x')))", "x 1 2", "x 3 1", "3,1,2")
}

// P95: which are compared, in which order: a list is parted in halves, the first the smaller.
func TestSortOrder(t *testing.T) {
	for _, c := range []struct{ list, want string }{
		{"2, 1", "2-1"}, {"3, 1, 2", "1-2 3-1 3-2"}, {"1, 2, 3", "2-3 1-2"}, {"3, 2, 1", "2-1 3-1 3-2"}, {"4, 3, 2, 1", "4-3 2-1 3-1 3-2"}, {"1, 2, 3, 4", "1-2 3-4 1-3 2-3"}, {"5, 4, 3, 2, 1", "5-4 2-1 3-1 3-2 4-1 4-2 4-3"}, {"1, , 2, undefined, 3", "2-3 1-2"}, {"7", ""},
		{"2, 4, 6, 1, 3, 5, 7", "4-6 2-4 1-3 5-7 1-5 3-5 2-1 2-3 4-3 4-5 6-5 6-7"},
	} {
		one.says(t, "var s = ''; ["+c.list+"].sort(function (a, b) { s += (s && ' ') + a + '-' + b; return a - b }); print(s)", c.want)
		// By texts: the first's first.
		one.says(t, "var s = ''; function mk(n) { return n === undefined ? n : {toString: function () { s += n + (s.length % 4 ? ' ' : '-'); return 'k' + n }, valueOf: print} } var l = ["+c.list+"]; for (var k in l) l[k] = mk(l[k]); s = ''; l.sort(); print(s)", strings.TrimLeft(c.want+" ", " "))
	}
}

// P95: the steps of sort: each item, each time that two are compared, each place that is deleted.
func TestSortSteps(t *testing.T) {
	one.takes(t,
		taken{"[].sort()", 0}, taken{"[1].sort()", 1}, taken{"[1, 2].sort()", 3}, taken{"[3, 1, 2].sort()", 6}, taken{"[5, 4, 3, 2, 1].sort()", 12}, taken{"[5, 4, 3, 2, 1].sort(function (a, b) { return a - b })", 19}, taken{"Array(4).sort()", 8}, taken{"[2, , 1, undefined].sort()", 6}, taken{"[undefined, undefined].sort()", 2}, taken{"[].sort.call({length: 3, 1: 'a'})", 5}, taken{"[[1, 2], [3]].sort()", 6},
	)
	// With too few steps nothing was put yet, or not all was deleted.
	r := one.run("var o = {length: 3, set 0(v) { print('put', v) }, get 0() { return 'b' }, 1: 'a'}; [].sort.call(o)", 4)
	if r.How != api.Cut || r.Lines != nil {
		t.Errorf("%+v", r)
	}
}

// P95: what is asked, put and deleted, and what can't be.
func TestSortPut(t *testing.T) {
	one.says(t, logged+"var o = list({length: 4, 0: 'c', 1: undefined, 3: 'a'}); [].sort.call(o); print(told(), Object.keys(o)); try { [].sort.call(o, 5) } catch (e) { print(e.name, told()) } try { [].sort.call(o, null) } catch (e) { print(e.name, told()) }", "get length get 0 get 1 get 3 put 0=a put 1=c 0,1,2,length", "TypeError get length", "TypeError get length")
	one.says(t, all+names+"var a = Object.freeze([2, 1]); print(names(function () { a.sort() }), all(a)); print(names(function () { Object.freeze([1]).sort() }), names(function () { return all(Object.freeze([]).sort()) })); a = Object.seal([2, , 1]); print(names(function () { a.sort() }), all(a)); a = Object.preventExtensions([2, 1, , ]); print(all(a.sort())); a = Object.preventExtensions([, 'b', 'a']); print(names(function () { a.sort() }), all(a))", "TypeError [2,1]2", "TypeError []0", "TypeError [1, ,1]3", "[1,2, ]3", "TypeError [ ,b,a]3")
	one.says(t, all+names+"var a = [3, 2, , 1]; Object.defineProperty(a, 3, {configurable: false}); print(names(function () { a.sort() }), all(a)); a = [3, 2, 1]; Object.defineProperty(a, 1, {writable: false}); print(names(function () { a.sort() }), all(a)); print(names(function () { [].sort.call('ba') }), [].sort.call('').length)", "TypeError [1,2,3,1]4", "TypeError [1,2,1]3", "TypeError 0")
	// What is thrown while they are compared leaves the list as it was.
	one.says(t, all+"var a = [3, , 1, 2]; try { a.sort(function (x, y) { if (y == 2) throw 'stop'; return 1 }) } catch (e) { print(e, all(a)) } try { [1, {toString: 0, valueOf: 0}].sort() } catch (e) { print(e.name) } try { [1, 2].sort(function () { return {valueOf: 0, toString: 0} }) } catch (e) { print(e.name) }", "stop [3, ,1,2]4", "TypeError", "TypeError")
	// The list changes while it is sorted: what was gathered counts, and the length of before.
	one.says(t, all+"var a = [3, 2, , 1]; a.sort(function (x, y) { a.length = 0; a.x = 1; return x - y }); print(all(a)); a = [2, 1]; a.sort(function (x, y) { a[5] = 'more'; return x - y }); print(all(a))", "[1,2,3]3", "[1,2, , , ,more]6")
	// Places that stand behind are items; they are put into the list itself.
	one.says(t, all+"Array.prototype[1] = 'b'; var a = ['c', , 'a']; a.sort(); print(all(a)); delete Array.prototype[1]; print(all([].sort.call(Object.create(['z', 'y', 'x']))))", "[a,b,c]3", "[x,y,z]3")
	one.fails(t, typeError, "[].sort(null)", "[2, 1].sort({})", "[].sort(5)", "[].sort('a')", "[].sort.call(undefined)", "[].sort.call(null, undefined)")
}

// P95: sort is stable, and compares as seldom as merging does.
func TestSortMany(t *testing.T) {
	r := rand.New(rand.NewPCG(8, 1))
	for range 60 {
		n := r.IntN(200)
		keys := make([]int, n)
		var items []string
		for i := range keys {
			keys[i] = r.IntN(1 + r.IntN(50))
			items = append(items, fmt.Sprintf("[%d, %d]", keys[i], i))
		}
		order := make([]int, n)
		for i := range order {
			order[i] = i
		}
		slices.SortStableFunc(order, func(a, b int) int { return keys[a] - keys[b] })
		want := make([]string, n)
		for i, at := range order {
			want[i] = fmt.Sprint(at)
		}
		src := "var l = [" + strings.Join(items, ", ") + "], n = 0; l.sort(function (a, b) { n++; return a[0] - b[0] }); print(l.map(function (x) { return x[1] })); print(n)"
		compared := merges(keys)
		one.says(t, src, strings.Join(want, ","), fmt.Sprint(compared))
	}
}

// merges: how often two are compared; the list is sorted then.
func merges(l []int) int {
	if len(l) < 2 {
		return 0
	}
	a, b := slices.Clone(l[:len(l)/2]), slices.Clone(l[len(l)/2:])
	n := merges(a) + merges(b)
	for i := range l {
		if len(a) > 0 && len(b) > 0 {
			n++
		}
		if len(b) == 0 || len(a) > 0 && a[0] <= b[0] {
			l[i], a = a[0], a[1:]
		} else {
			l[i], b = b[0], b[1:]
		}
	}
	return n
}

package ecmacore_test

import "testing"

// P80: assignment.
func TestAssign(t *testing.T) {
	says(t, "var a = 7, o = {x: 7}; print(a += 2, a -= 1, a *= 3, a /= 4, a %= 4, a <<= 3, a >>= 1, a >>>= 1, a |= 9, a &= 12, a ^= 5); print(a)", "9 8 24 6 2 16 8 4 13 12 9", "9")
	says(t, "var o = {x: 1}; print(o.x += 'a', o['x'] += 1, o.y += 1, o.x = o.z = 5); print(o.x, o.y, o.z)", "1a 1a1 NaN 5", "5 NaN 5")
	says(t, "var i = 0, a = []; a[i] = i = 1; a[i++] = i; print(a, i); var x = 1; x += x = 5; print(x); x = x++ + x; print(x)", "1,2 2", "6", "13")
	says(t, "var o = {x: 1}, p = o; o.x = o = {y: 2}; print(p.x.y, o.x)", "2 undefined")
	ends(t,
		end{src: odd + "var x = 1; x += bad", text: typeError},
		end{src: odd + "o.x = two; o.x -= bad", text: typeError, steps: 2},
		end{src: odd + "o.x = bad; o.x -= two", text: typeError, steps: 0},
		end{src: odd + "print.length += two", text: typeError, steps: 2},
		end{src: odd + "print.length = two + ''", text: typeError, steps: 2},
		end{src: odd + "NaN = two + ''", text: typeError, steps: 2},
	)
}

// P80: up and down by one.
func TestCount(t *testing.T) {
	says(t, "var a = 1; print(a++, a, ++a, a, a--, a, --a, a)", "1 2 3 3 3 2 1 1")
	says(t, "var o = {x: '5'}; print(o.x++, o.x, ++o.x, o['x']--, o.x, --o['x']); print(o.y++, o.y)", "5 6 7 7 6 5", "NaN NaN")
	says(t, "var s = '5', b = true, n = null, u, l = [7], z = -0; print(typeof s++, s, b++, b, ++n, u--, u, l++, l, 1 / z++)", "number 6 1 2 1 NaN NaN 7 8 -Infinity")
	says(t, "var i = 0, a = [5, 6]; print(a[i++]++, a[i]--, a, i)", "5 6 6,5 1")
	ends(t,
		end{src: odd + "bad++", text: typeError},
		end{src: odd + "two++; print(two)", steps: 2, lines: []string{"NaN"}},
		end{src: odd + "o.x = two; print(o.x++); print(o.x)", steps: 2, lines: []string{"NaN", "NaN"}},
		end{src: "NaN++", text: typeError}, end{src: "print.length--", text: typeError}, end{src: "'abc'.length++", text: typeError}, end{src: "--'abc'[0]", text: typeError}, end{src: "null.x++", text: typeError},
	)
}

// P80: delete, typeof, void, and what stands ahead of one operand.
func TestUnary(t *testing.T) {
	gives(t,
		[2]string{"delete {x: 1}.x, delete [1][0], delete 5, delete 'a', delete ({}), delete this, delete {}.none, delete [][7]", "true true true true true true true true"},
		[2]string{"typeof zz, typeof undefined, typeof null, typeof void 0, typeof typeof 1, typeof -'x', typeof !0, typeof NaN, typeof (zz)", "undefined undefined object undefined string number boolean number undefined"},
		[2]string{"void 1, void 'a', -'3', -null, -undefined, - -1, +true, -[2], +'a', 1 / -0, -Infinity", "undefined undefined -3 0 NaN 1 1 -2 NaN -Infinity -Infinity"},
		[2]string{"~0, ~5, ~-1, ~'7', ~NaN, ~4294967296, ~2147483648, ~1.9, ~-1.9, !1, !'', !![]", "-1 -6 0 -8 -1 -1 2147483647 -2 0 false true true"},
	)
	says(t, "var o = {x: 1, y: 2}; delete o.x; print('x' in o, o.y); delete o['y']; print(o.y); var a = [1, 2, 3]; delete a[1]; print(a, a.length, 1 in a)", "false 2", "undefined", "1,,3 3 false")
	says(t, "delete print('a'); void print('b'); typeof print('c'); !print('d')", "a", "b", "c", "d")
	fails(t, typeError, "var x; delete this.x", "delete this.NaN", "delete print.length", "delete Error.prototype", "delete [].length", "delete null.x", "delete undefined[0]", "+{valueOf: 0, toString: 0}")
	says(t, "print(delete this.print); ", "true")
	ends(t, end{src: "delete this.print; print()", text: referenceError}, end{src: odd + "-two", steps: 2}, end{src: odd + "~two", steps: 2}, end{src: odd + "!two; void two; typeof two; delete two.x", steps: 0})
}

// P80: what is not done of And, Or, Cond; Comma.
func TestShort(t *testing.T) {
	gives(t,
		[2]string{"0 && zz, '' && zz, null && zz, NaN && zz, 1 && 2, {} && 'a'", "0  null NaN 2 a"},
		[2]string{"1 || zz, 'a' || zz, 0 || '', undefined || null, '' || 0 || 'x', [] || zz", "1 a  null x "},
		[2]string{"true ? 1 : zz, '' ? zz : 2, 0 ? zz : NaN ? zz : 3, 1 ? 2 ? 4 : zz : zz", "1 2 3 4"},
		[2]string{"(1, 2), ('a', 'b', 'c'), (zz1 = this.zz1 = 1, zz1)", "2 c 1"},
	)
	says(t, "print(1) && print(2); print(3) || print(4); 1 ? print(5) : print(6); print(7), print(8)", "1", "3", "4", "5", "7", "8")
}

// P81: +.
func TestAdd(t *testing.T) {
	gives(t,
		[2]string{"1 + 2, '1' + 2, 1 + '2', 1 + null, 1 + undefined, true + true, null + 'a', undefined + '', 0.1 + 0.2", "3 12 12 1 NaN 2 nulla undefined 0.30000000000000004"},
		[2]string{"[] + [], [1] + [2], {} + 1, [] + {}, 1 + [2], print + '', 1 + 2 + '3' + 4 + 5", " 12 [object Object]1 [object Object] 12 function () { [code] } 3345"},
		[2]string{"1 / (-0 + -0), 1 / (0 + -0), Infinity + -Infinity, 1e308 + 1e308, 9007199254740992 + 1", "-Infinity Infinity NaN Infinity 9007199254740992"},
	)
	ends(t,
		end{src: odd + "two + bad", text: typeError, steps: 2}, end{src: odd + "bad + two", text: typeError}, end{src: odd + "two + [3]", steps: 3},
		end{src: odd + "(two + '') + bad", text: typeError, steps: 2}, end{src: odd + "two + (bad + '')", text: typeError},
	)
}

// P81: numbers and bits.
func TestArithmetic(t *testing.T) {
	gives(t,
		[2]string{"5 - '3', '6' * '2', 7 / '2', 7 % 4, -7 % 4, 7 % -4, 5.5 % 2, 'a' - 1, null - 1, true * 3", "2 12 3.5 3 -3 3 1.5 NaN -1 3"},
		[2]string{"1 / 0, -1 / 0, 0 / 0, 1 % 0, Infinity % 2, 2 % Infinity, 1 / (-4 % 2), 1 / (0 % -2), 1e308 * 10, 5e-324 / 2", "Infinity -Infinity NaN NaN NaN 2 -Infinity Infinity Infinity 0"},
		[2]string{"1 << 31, 1 << 32, 1 << 33, 1 << -1, 3 << '1', 4294967297 << 0, 1.9 << 1.9, NaN << 1, -1 << 1", "-2147483648 1 2 -2147483648 6 1 2 0 -2"},
		[2]string{"-8 >> 1, -1 >> 31, 8 >> 33, 2147483648 >> 0, -1 >>> 0, -1 >>> 31, -1 >>> 32, 4294967296 >>> 0, 8 >>> -31", "-4 -1 4 -2147483648 4294967295 1 4294967295 0 4"},
		[2]string{"6 & 3, 6 | 3, 6 ^ 3, -1 & 255, '6' & true, 4294967295 | 0, Infinity | 0, 2147483648 ^ 0, 1e20 | 0, -1.5 | 0", "2 7 5 255 0 -1 0 -2147483648 1661992960 -1"},
	)
	for _, op := range []string{"-", "*", "/", "%", "<<", ">>", ">>>", "&", "^", "|"} {
		ends(t,
			end{src: odd + "two " + op + " bad", text: typeError, steps: 2},
			end{src: odd + "bad " + op + " two", text: typeError, steps: 0},
			end{src: odd + "two " + op + " [3]", steps: 3},
			end{src: odd + "var x = two; x " + op + "= bad", text: typeError, steps: 2},
		)
	}
}

// P81: < > <= >=.
func TestOrder(t *testing.T) {
	gives(t,
		[2]string{"1 < 2, 2 < 1, 1 < 1, 1 <= 1, 2 > 1, 1 >= 1, 1 >= 2, -0 < 0, 0 <= -0", "true false false true true true false false true"},
		[2]string{"NaN < 1, NaN > 1, NaN <= NaN, NaN >= NaN, undefined < 1, undefined >= undefined, null >= 0, null < 1, true > 0", "false false false false false false true true true"},
		[2]string{"'a' < 'b', 'b' < 'a', 'a' < 'a', 'a' <= 'a', '' < 'a', 'a' < 'ab', 'ab' < 'b', '10' < '9', '10' < 9, 10 < '9'", "true false false true true true true true false false"},
		[2]string{"'\\uffff' > '\\ud83d\\ude00', '\\ue000' < '\\ud83d\\ude00', '\\ud83d' < '\\ud83d\\ude00', '\\ud83dz' < '\\ud83d\\ude00', '\\ud83d\\uffff' > '\\ud83d\\ude00', '\\u00e9' < 'z'", "true false true true true false"},
		[2]string{"'a' < 1, 'a' >= 1, ' 1 ' >= 1, [2] > 1, [2] > '10', [10] < [9], {} < 1, {} >= {}, '1' < [2]", "false false true true true true false true true"},
	)
	for _, op := range []string{"<", ">", "<=", ">="} {
		ends(t,
			end{src: odd + "two " + op + " bad", text: typeError, steps: 2},
			end{src: odd + "bad " + op + " two", text: typeError, steps: 0},
			end{src: odd + "two " + op + " [3]", steps: 3},
		)
	}
}

// P81: === and ==.
func TestEqual(t *testing.T) {
	gives(t,
		[2]string{"1 === 1, 1 === '1', 'a' === 'a', 'a' === 'b', NaN === NaN, 0 === -0, null === null, undefined === null, true === 1, {} === {}, print === print", "true false true false false true true false false false true"},
		[2]string{"1 !== 1, 1 !== '1', NaN !== NaN, 0 !== -0, [] !== []", "false true true false true"},
		[2]string{"1 == 1, 1 == '1', '1' == 1, 1 == ' 1 ', '' == 0, '1' == '1 ', NaN == NaN, 0 == -0, 'a' == 'a', [] == []", "true true true true true false false true true false"},
		[2]string{"null == undefined, undefined == null, null == 0, null == false, undefined == 0, null == '', undefined == {}, {} == null, null == null", "true true false false false false false false true"},
		[2]string{"true == 1, 1 == true, true == '1', true == 'true', false == '', false == null, true == [1], [0] == false, true == true, true == {}", "true true true false true false true true true false"},
		[2]string{"[1] == 1, 1 == [1], [1] == '1', '1,2' == [1, 2], {} == '[object Object]', {} == 1, {valueOf: 0} == '[object Object]'", "true true true true true false true"},
		[2]string{"1 != 1, 1 != '1', NaN != NaN, null != undefined, null != 0, [1] != 1", "false false true false true false"},
	)
	says(t, "var o = {}, p = o; print(o == p, o === p, o != p, o !== p)", "true true false false")
	says(t, "var o = {valueOf: print}; print(o == 1, 1 == o, o == null, undefined == o, o == o, o == {}, o != true)", "", "", "", "false false false false true false true")
	ends(t,
		end{src: odd + "two == bad; bad == null; undefined == bad; two === bad; bad !== 1; two == two"},
		end{src: odd + "two == 1", steps: 2}, end{src: odd + "'a' == two", steps: 2}, end{src: odd + "two == true", steps: 2}, end{src: odd + "two != 'a'", steps: 2},
		end{src: odd + "bad == 1", text: typeError}, end{src: odd + "true == bad", text: typeError}, end{src: odd + "'a' != bad", text: typeError},
	)
}

// P81: in and instanceof.
func TestInAndInstanceof(t *testing.T) {
	gives(t,
		[2]string{"'x' in {x: 1}, 'y' in {x: 1}, 'toString' in {}, 1 in [1, 2], '1' in [1, 2], 2 in [1, 2], 'length' in [], 'length' in {}, 'name' in new Error, undefined in {undefined: 1}", "true false true true true false true false true true"},
		[2]string{"new Error instanceof Error, new RangeError instanceof Error, new RangeError instanceof TypeError, {} instanceof Error, Error.prototype instanceof Error, TypeError.prototype instanceof Error, 5 instanceof Error, 'a' instanceof print", "true true false false false true false false"},
	)
	fails(t, typeError, "'x' in 'abc'", "1 in 5", "1 in null", "1 in undefined", "1 in true", "1 instanceof 5", "1 instanceof {}", "({}) instanceof null", "({}) instanceof print", "[] instanceof [].join", "1 instanceof Error.prototype")
	ends(t,
		end{src: odd + "two in 5", text: typeError, steps: 0}, end{src: odd + "two in {}", steps: 2}, end{src: odd + "bad in {}", text: typeError},
		end{src: "(print('l'), 1) in (print('r'), 2)", text: typeError, lines: []string{"l", "r"}},
		end{src: "(print('l'), 1) instanceof (print('r'), 2)", text: typeError, lines: []string{"l", "r"}},
	)
}

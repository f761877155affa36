package ecmacore_test

import "testing"

// P70: the kinds of values, and an object of class String.
func TestKinds(t *testing.T) {
	gives(t,
		[2]string{"typeof undefined, typeof null, typeof true, typeof 0, typeof '', typeof {}, typeof [], typeof /a/, typeof print, typeof Error", "undefined object boolean number string object object object function function"},
		[2]string{"'\\ud83d\\ude00'.length, '\\ud83d'.length, '\\u00e9'.length, ''.length", "2 1 1 0"},
		[2]string{"'\\ud83d' + '\\ude00', '\\ud83d' + '\\ude00' === '\\ud83d\\ude00', '\\ude00' + '\\ud83d' === '\\ud83d\\ude00'", "\U0001F600 true false"},
		[2]string{"'a\\ud83d\\ude00'[1] + 'a\\ud83d\\ude00'[2], '\\ud83d\\ude00'[0] === '\\ud83d'", "\U0001F600 true"},
		[2]string{"'\\ud83d'", "\xed\xa0\xbd"},
	)
	// An object of class String is made by delete; its units and length stay, and all else goes.
	says(t, "print(delete 'ab'[2], delete 'ab'.x, delete 'ab'['01'], delete ''[0], delete (5).x, delete true.x)", "true true true true true true")
	fails(t, typeError, "delete 'ab'[0]", "delete 'ab'[1]", "delete 'ab'.length", "delete '\\ud83d\\ude00'[1]")
}

// P71: an error that the language throws has no properties itself.
func TestErrorsThrown(t *testing.T) {
	fails(t, typeError, "null.x", "undefined.x", "5()", "delete [].length")
	fails(t, rangeError, "[].length = -1", "(5).toString(1)")
	fails(t, referenceError, "zz", "zz = 1")
	ends(t,
		end{src: "delete TypeError.prototype.message; Error.prototype.message = 'm'; null.x", text: "Error TypeError m"},
		end{src: "TypeError.prototype.name = 7; null.x", text: "Error "},
		end{src: "delete TypeError.prototype.name; null.x", text: "Error Error "},
	)
}

// P73: which primitive is asked for, and what is no primitive.
func TestPrimitive(t *testing.T) {
	// print as a method prints an empty line and gives undefined: so it tells that it was called.
	says(t, "print({valueOf: print} + '', +{valueOf: print})", "", "", "undefined NaN")
	says(t, "print('' + {toString: print}, [{toString: print}] + '', [{valueOf: print}] + '')", "", "", "undefined undefined [object Object]")
	says(t, "var o = {valueOf: print, toString: print}; print('x' + o); print(o); print(o - 1); print(o < 1); print(o == 1); ({})[o]; o in {}",
		"", "xundefined", "", "undefined", "", "NaN", "", "false", "", "false", "", "")
	// With no hint, and the hint number, valueOf is first, on both sides.
	says(t, "var v = {valueOf: print}; print(v + 1, 1 + v, v + '', '' + v)", "", "", "", "", "NaN NaN undefined undefined")
	says(t, "var v = {valueOf: print}; print(v < 1, 1 < v, v >= 'a', 'a' >= v, v - 1, 1 * v, v & 1, 1 >>> v, v == 1, 'a' == v, -v, ~v)", "", "", "", "", "", "", "", "", "", "", "", "", "false false false false NaN NaN 0 1 false false NaN -1")
	// What is no function, or gives an object, does not count.
	says(t, "print('' + {valueOf: 1, toString: Error.prototype.toString, name: 'n'})", "n")
	says(t, "print({toString: 1, valueOf: print} + '', [{toString: 1, valueOf: print}] + '')", "", "", "undefined undefined")
	says(t, "print('' + {valueOf: Error, toString: print}, -{toString: print, valueOf: {}.valueOf})", "", "", "undefined NaN")
	fails(t, typeError,
		"'' + {toString: 1, valueOf: 1}", "+{toString: undefined}", "'' + {toString: Error}", "print({toString: {}.valueOf, valueOf: {}.valueOf})",
		"({})[{toString: null, valueOf: null}]", "1 < {toString: Error}", "1 == {toString: Error}")
	ends(t, end{src: "print([{toString: 0, valueOf: 0}])", text: typeError, steps: 1})
}

// P73: what is taken for true.
func TestTruth(t *testing.T) {
	gives(t,
		[2]string{"!undefined, !null, !false, !0, !-0, !NaN, !''", "true true true true true true true"},
		[2]string{"!true, !1, !-1, !Infinity, !5e-324, !'0', !' ', !'false', !{}, ![], !print", "false false false false false false false false false false false"},
	)
}

// P73: numbers and strings.
func TestNumbersAndStrings(t *testing.T) {
	gives(t,
		[2]string{"+undefined, +null, +false, +true, +'', +' 12 ', +'0x1f', +'1x', +'-0x1', +'Infinity', +'1e3'", "NaN 0 0 1 0 12 31 NaN NaN Infinity 1000"},
		[2]string{"+[], +[7], +[1, 2], +{}, 1 / +'-0', 1 / -0, +'\\ufeff 1\\n'", "0 7 NaN NaN -Infinity -Infinity 1"},
		[2]string{"undefined, null, true, false, 0, -0, 1e21, 1e-7, 123456789012345680000, 0.1, NaN, -Infinity", "undefined null true false 0 0 1e+21 1e-7 123456789012345680000 0.1 NaN -Infinity"},
		[2]string{"'' + undefined, '' + null, '' + true, '' + -0, '' + [1, [2, [3]]], '' + {}", "undefined null true 0 1,2,3 [object Object]"},
	)
	ends(t, end{src: "+[1, 2, 3]", steps: 3}, end{src: "'' + [[1], [2]]", steps: 4}, end{src: "+[]", steps: 0})
}

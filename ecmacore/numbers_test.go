package ecmacore_test

import (
	"fmt"
	"math"
	"math/rand/v2"
	"strings"
	"testing"

	"ecmacore/api"
	"ecmacore/ecmacore"
	"ecmacore/num"
)

// P105: Number, called and with new.
func TestNumberMade(t *testing.T) {
	two.gives(t,
		[2]string{"typeof Number, Number.length, Number.prototype === Object.getPrototypeOf(Object(1)), Number.prototype.constructor === Number, Number.prototype.valueOf(), 1 / Number.prototype.valueOf()", "function 1 true true 0 Infinity"},
		[2]string{"Number(), Number(undefined), Number(null), Number(''), Number(' 12 '), Number('12px'), Number('0x1F'), Number('-Infinity'), Number(true), Number([5]), Number([1, 2]), Number({}), 1 / Number('-0'), 1 / Number(-0), Number('1e400'), Number(1, 2)", "0 NaN 0 0 12 NaN 31 -Infinity 1 5 NaN NaN -Infinity -Infinity Infinity 1"},
		[2]string{"typeof new Number, new Number().valueOf(), new Number(undefined).valueOf(), new Number('5') + 1, {}.toString.call(new Number), new Number(1) === new Number(1), new Number(1) instanceof Number, 1 instanceof Number, typeof Number('1'), Object.getOwnPropertyNames(new Number(5)).length, 1 / new Number(-0).valueOf()", "object 0 NaN 6 [object Number] false true false number 0 -Infinity"},
		[2]string{"Number.MAX_VALUE, Number.MIN_VALUE, Number.NaN, Number.NEGATIVE_INFINITY, Number.POSITIVE_INFINITY, Number.MAX_VALUE * 2, Number.MIN_VALUE / 2", "1.7976931348623157e+308 5e-324 NaN -Infinity Infinity Infinity 0"},
		[2]string{"(5).constructor === Number, (5).toLocaleString(), (-1.5e21).toLocaleString(), (-0).toLocaleString(), new Number(7).toLocaleString(), NaN.toLocaleString(), (255).toLocaleString(16), [1, 2.5].toLocaleString()", "true 5 -1.5e+21 0 7 NaN 255 1,2.5"},
	)
	two.says(t, asked+"print(Number(v('a', '0x10'), v('b', 1)), new Number(v('c', 5)) + 0)", "a number", "c number", "16 5")
	two.fails(t, typeError, odd+"Number(bad)", odd+"new Number(bad)", "Number.NaN = 1", "Number.MAX_VALUE++", "delete Number.MIN_VALUE", "Number.prototype = 1", "Number.prototype.toLocaleString.call('5')", "Number.prototype.toLocaleString.call({})", "new (5).toFixed(1)")
	two.takes(t, taken{"Number(); Number('5'); new Number(5); (5).toLocaleString(); (5).toFixed(2)", 0}, taken{"Number([1, 2])", 2})
}

// P105: toFixed, toExponential, toPrecision.
func TestNumberDigits(t *testing.T) {
	two.gives(t,
		[2]string{"(1.005).toFixed(2), (1.5).toFixed(), (-1.5).toFixed(0), (2.5).toFixed(undefined), (1e21).toFixed(2), (0).toFixed(2), (-0).toFixed(2), (-0.0000001).toFixed(2), NaN.toFixed(2), (1 / 0).toFixed(2), (123.456).toFixed(20), (0.5).toFixed('1'), (1.45).toFixed(1.9), (1.45).toFixed(-0.9), (5).toFixed(null), (5).toFixed('x')", "1.00 2 -2 3 1e+21 0.00 0.00 -0.00 NaN Infinity 123.45600000000000306954 0.5 1.4 1 5 5"},
		[2]string{"(12345).toExponential(2), (12345).toExponential(), (12345).toExponential(undefined), (12345).toExponential(0), (12345).toExponential(null), (0).toExponential(), (-0).toExponential(2), (0.00015).toExponential(1), (-1.5e-9).toExponential(), (5e-324).toExponential(3), NaN.toExponential(2), (-1 / 0).toExponential(2), (1).toExponential(20), (25).toExponential('0')", "1.23e+4 1.2345e+4 1.2345e+4 1e+4 1e+4 0e+0 0.00e+0 1.5e-4 -1.5e-9 4.941e-324 NaN -Infinity 1.00000000000000000000e+0 3e+1"},
		[2]string{"(123.456).toPrecision(4), (123.456).toPrecision(), (123.456).toPrecision(undefined), (0.00001).toPrecision(1), (0.0000001).toPrecision(2), (1e21).toPrecision(3), (123456).toPrecision(2), (0).toPrecision(3), (-0).toPrecision(), (-1.25).toPrecision(2), NaN.toPrecision(3), (1 / 0).toPrecision(2), (5).toPrecision('3'), (1).toPrecision(21), (1.5).toPrecision(1.9)", "123.5 123.456 123.456 0.00001 1.0e-7 1.00e+21 1.2e+5 0.00 0 -1.3 NaN Infinity 5.00 1.00000000000000000000 2"},
		[2]string{"new Number(1.25).toFixed(1), new Number(15).toExponential(0), new Number(15).toPrecision(1), Number.prototype.toFixed(1), (1).toFixed.call(new Number(2), 1)", "1.3 2e+1 2e+1 0.0 2.0"},
	)
	two.fails(t, rangeError, "(1).toFixed(-1)", "(1).toFixed(21)", "(1).toFixed(1 / 0)", "(1).toFixed(-1 / 0)", "NaN.toFixed(21)", "(1e21).toFixed(-1)", "(1).toFixed(4294967296)", "(1).toExponential(-1)", "(1).toExponential(21)", "(0).toExponential(-1)", "(1).toExponential(1 / 0)", "(1).toExponential(-1 / 0)", "(1).toExponential(4294967296)", "(1).toPrecision(0)", "(1).toPrecision(22)", "(1).toPrecision(null)", "(1).toPrecision(-1)", "(1).toPrecision(NaN)", "(1).toPrecision(1 / 0)", "(1).toPrecision(0.9)", "(0).toPrecision(4294967297)")
	// NaN and the Infinities are told whatever the argument is, but by toFixed.
	two.gives(t, [2]string{"NaN.toExponential(-1), NaN.toExponential(99), (1 / 0).toExponential(21), (-1 / 0).toExponential(-9), NaN.toPrecision(0), (1 / 0).toPrecision(22), (-1 / 0).toPrecision(-1)", "NaN NaN Infinity -Infinity NaN Infinity -Infinity"})
	for _, name := range []string{"toFixed", "toExponential", "toPrecision"} {
		two.fails(t, typeError, "(1)."+name+".call('1', {valueOf: function () { print('no') }})", "(1)."+name+".call(undefined)", "(1)."+name+".call({})", "(1)."+name+".call(new String('1'))", odd+"(1)."+name+"(bad)", odd+"NaN."+name+"(bad)")
		two.says(t, asked+"print((1.5)."+name+"(v('a', 1), v('b', 2)), NaN."+name+"(v('c', 1)))", "a number", "c number", map[string]string{"toFixed": "1.5 NaN", "toExponential": "1.5e+0 NaN", "toPrecision": "2 NaN"}[name])
		two.takes(t, taken{"(1)." + name + "([1])", 1})
	}
}

// P105: Boolean, called and with new.
func TestBooleanMade(t *testing.T) {
	two.gives(t,
		[2]string{"typeof Boolean, Boolean.length, Boolean.prototype === Object.getPrototypeOf(Object(true)), Boolean.prototype.constructor === Boolean, Boolean.prototype.valueOf(), Object.getOwnPropertyNames(Boolean)", "function 1 true true false length,prototype"},
		[2]string{"Boolean(), Boolean(undefined), Boolean(null), Boolean(0), Boolean(-0), Boolean(NaN), Boolean(''), Boolean('0'), Boolean(1), Boolean({}), Boolean([]), Boolean(new Boolean(false)), Boolean('false'), typeof Boolean(1)", "false false false false false false false true true true true true true boolean"},
		[2]string{"typeof new Boolean, new Boolean(false) ? 1 : 2, new Boolean().valueOf(), new Boolean('x').valueOf(), new Boolean(0) + '', {}.toString.call(new Boolean), new Boolean(1) === new Boolean(1), new Boolean(1) instanceof Boolean, true instanceof Boolean, true.constructor === Boolean, new Boolean(new Boolean(false)).valueOf()", "object 1 false true false [object Boolean] false true false true true"},
	)
	two.says(t, odd+"print(Boolean(bad), new Boolean(bad).valueOf(), Boolean({valueOf: print}))", "true true true")
	two.takes(t, taken{"Boolean([1]); new Boolean(0)", 0})
}

// P105: Math.
func TestMath(t *testing.T) {
	two.gives(t,
		[2]string{"typeof Math, Math, Object.getPrototypeOf(Math) === Object.prototype, Object.isExtensible(Math), Object.keys(Math).length", "object [object Math] true true 0"},
		[2]string{"Math.E, Math.LN10, Math.LN2, Math.LOG2E, Math.LOG10E, Math.PI, Math.SQRT1_2, Math.SQRT2", "2.718281828459045 2.302585092994046 0.6931471805599453 1.4426950408889634 0.4342944819032518 3.141592653589793 0.7071067811865476 1.4142135623730951"},
		[2]string{"Math.abs(-1.5), Math.abs('-2'), 1 / Math.abs(-0), Math.abs(-1 / 0), Math.abs(), Math.abs(null), Math.abs([-3]), Math.abs(-5e-324)", "1.5 2 Infinity Infinity NaN 0 3 5e-324"},
		[2]string{"Math.ceil(1.2), Math.ceil(-1.8), 1 / Math.ceil(-0.5), Math.ceil(5e-324), Math.ceil('1.1'), Math.ceil(), Math.ceil(-1 / 0), Math.floor(1.8), Math.floor(-1.2), 1 / Math.floor(-0), 1 / Math.floor(0.9), Math.floor(-5e-324), Math.floor('x'), Math.floor(1e300) === 1e300", "2 -1 -Infinity 1 2 NaN -Infinity 1 -2 -Infinity Infinity -1 NaN true"},
		[2]string{"Math.sqrt(16), Math.sqrt(2) === Math.SQRT2, Math.sqrt(-1), 1 / Math.sqrt(-0), Math.sqrt(1 / 0), Math.sqrt('9'), Math.sqrt(), Math.sqrt(5e-324)", "4 true NaN -Infinity Infinity 3 NaN 2.2227587494850775e-162"},
		[2]string{"Math.round(2.5), Math.round(-2.5), Math.round(3.5), Math.round(-3.5), Math.round(0.5), 1 / Math.round(-0.5), 1 / Math.round(0.2), 1 / Math.round(-0.2), Math.round(0.49999999999999994), Math.round(-0.50000000000000011), Math.round(1.5), Math.round(2.4999999999999996), Math.round(5e-324), 1 / Math.round(-5e-324)", "3 -2 4 -3 1 -Infinity Infinity -Infinity 0 -1 2 2 0 -Infinity"},
		[2]string{"Math.round(), Math.round(-1 / 0), Math.round(1 / 0), 1 / Math.round(-0), 1 / Math.round(0), Math.round(4503599627370495.5), Math.round(4503599627370497), Math.round(-4503599627370495.5), Math.round(-4503599627370497), Math.round(9007199254740991), Math.round(2251799813685248.5), Math.round(-2251799813685248.5), Math.round('7.5'), Math.round(1e300) === 1e300", "NaN -Infinity Infinity -Infinity Infinity 4503599627370496 4503599627370497 -4503599627370495 -4503599627370497 9007199254740991 2251799813685249 -2251799813685248 8 true"},
		[2]string{"Math.pow(2, 10), Math.pow(2, -1), Math.pow(NaN, 0), Math.pow(NaN, -0), Math.pow(0, 0), Math.pow(1, NaN), Math.pow(1, 1 / 0), Math.pow(-1, 1 / 0), Math.pow(1, -1 / 0), Math.pow(-1, -1 / 0), Math.pow(2, 1 / 0), Math.pow(0.5, 1 / 0), Math.pow(-8, 1 / 3), Math.pow(), Math.pow(2), Math.pow('2', '3'), 1 / Math.pow(-0, 3), Math.pow(-0, -3), Math.pow(4, 0.5), Math.pow(10, 3), Math.pow(-2, 3)", "1024 0.5 1 1 1 NaN NaN NaN NaN NaN Infinity 0 NaN NaN NaN 8 -Infinity -Infinity 2 1000 -8"},
		[2]string{"Math.max(), Math.max(1), Math.max(1, 3, 2), Math.max('5', [7], null), Math.max(1, NaN), Math.max(NaN, 1 / 0), Math.max(1 / 0, NaN, 1), Math.max(1, undefined), Math.max(undefined), 1 / Math.max(-0, 0), 1 / Math.max(0, -0), 1 / Math.max(-0, -0), 1 / Math.max(-0), Math.max(-1 / 0), Math.max({})", "-Infinity 1 3 7 NaN NaN NaN NaN NaN Infinity Infinity -Infinity -Infinity -Infinity NaN"},
		[2]string{"Math.min(), Math.min(1), Math.min(1, 3, -2), Math.min('5', [7], null), Math.min(1, NaN), Math.min(NaN, -1 / 0), Math.min(-1 / 0, NaN, 1), Math.min(undefined), 1 / Math.min(-0, 0), 1 / Math.min(0, -0), 1 / Math.min(0, 0), Math.min(1 / 0)", "Infinity 1 -2 0 NaN NaN NaN NaN -Infinity -Infinity Infinity Infinity"},
		[2]string{"Math.max.apply(null, [1, 9, 3]), Math.abs.call('x', -1), Math.max.length, Math.min.length, Math.pow.length, Math.round.length", "9 1 2 2 2 1"},
	)
	two.says(t, asked+"print(Math.pow(v('a', 2), v('b', 3), v('c', 1)), Math.max(v('d', NaN), v('e', 1)), Math.min(v('f', 1), NaN, v('g', 2)), Math.abs(v('h', -1), v('i', 1)))", "a number", "b number", "d number", "e number", "f number", "g number", "h number", "8 NaN NaN 1")
	two.fails(t, typeError, "Math()", "new Math", "Math.PI = 3", "delete Math.E", odd+"Math.abs(bad)", odd+"Math.pow(1, bad)", odd+"Math.max(1, bad)", odd+"Math.min(NaN, bad)", odd+"Math.round(bad)", "new Math.abs(1)", odd+"Math.pow(bad, {valueOf: function () { print('no') }})")
	two.takes(t, taken{"Math.max(1, 2, 3); Math.round(1.5); Math.pow(2, 3)", 0}, taken{"Math.max([1], [2, 3])", 3})
}

// P100, P105: what goes by numbers is what Go and package num say of them.
func TestNumbersAtRandom(t *testing.T) {
	r := rand.New(rand.NewPCG(28, 2))
	w := ecmacore.New(2)
	text := func(s string, err error) string {
		if err != nil {
			return "RangeError"
		}
		return s
	}
	for range 4000 {
		x := math.Float64frombits(r.Uint64())
		switch r.IntN(4) {
		case 0:
			x = (r.Float64() - 0.5) * 1000
		case 1:
			x = float64(r.IntN(2001)-1000) / 2
		}
		n := r.IntN(26) - 2
		exp := n
		if n < 0 {
			exp = 21
		}
		src := fmt.Sprintf("function f(name) { try { return x[name](n) } catch (e) { return e.name } } var x = %s, n = %d; print(f('toFixed'), f('toExponential'), f('toPrecision'), f('toString'), Math.round(x), parseInt(x, n), parseFloat(x), isFinite(x), Math.pow(x, 0.5), 1 / Math.ceil(x))", num.Text(x), n)
		want := []string{text(num.Fixed(x, n)), text(num.Exponential(x, exp)), text(num.Precision(x, n)), text(num.Radix(x, n)),
			num.Text(nearest(x)), num.Text(num.ReadInt(num.Text(x), float64(n))), num.Text(num.ReadFloat(num.Text(x))), fmt.Sprint(!math.IsNaN(x) && !math.IsInf(x, 0)), num.Text(math.Pow(x, 0.5)), num.Text(1 / math.Ceil(x))}
		res := w.Run(src, api.Limits{Steps: 100})
		if res.How != api.Ended || res.Lines[0] != strings.Join(want, " ") {
			t.Fatalf("%s\n got %+v\nwant %s", src, res, want)
		}
	}
}

// nearest whole number, of two the greater, by whole numbers alone.
func nearest(x float64) float64 {
	if !(math.Abs(x) < 1<<52) {
		return x
	}
	whole, rest := math.Modf(x)
	switch n := int64(whole); {
	case rest >= 0.5:
		return float64(n + 1)
	case rest < -0.5:
		return float64(n - 1)
	default:
		return float64(n)
	}
}

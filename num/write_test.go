package num_test

import (
	"errors"
	"math"
	"math/big"
	"math/rand/v2"
	"strconv"
	"strings"
	"testing"

	"ecmacore/api"
	"ecmacore/num"
)

type written struct {
	x    float64
	n    int
	want string
}

func checkWritten(t *testing.T, f func(float64, int) (string, error), rows []written) {
	t.Helper()
	for _, c := range rows {
		if got, err := f(c.x, c.n); got != c.want || err != nil {
			t.Errorf("(%v, %d) = %q, %v, want %q", c.x, c.n, got, err, c.want)
		}
	}
}

func checkRange(t *testing.T, f func(float64, int) (string, error), numbers []float64, wrong ...int) {
	t.Helper()
	for _, x := range numbers {
		for _, n := range wrong {
			if got, err := f(x, n); got != "" || !errors.Is(err, api.ErrRange) {
				t.Errorf("(%v, %d) = %q, %v, want ErrRange", x, n, got, err)
			}
		}
	}
}

// P15: Fixed.
func TestFixed(t *testing.T) {
	checkWritten(t, num.Fixed, []written{
		{0, 0, "0"}, {0, 2, "0.00"}, {negZero, 2, "0.00"}, {1, 0, "1"}, {1, 3, "1.000"}, {-1.5, 1, "-1.5"}, {123.456, 0, "123"}, {123.456, 2, "123.46"},
		// exact, of two the greater
		{1.005, 2, "1.00"}, {0.5, 0, "1"}, {1.5, 0, "2"}, {2.5, 0, "3"}, {-2.5, 0, "-3"}, {0.25, 1, "0.3"}, {0.125, 2, "0.13"}, {0.49999999999999994, 0, "0"}, {0.05, 1, "0.1"}, {0.15, 1, "0.1"}, {0.1, 20, "0.10000000000000000555"}, {123.456, 20, "123.45600000000000306954"},
		{0.95, 1, "0.9"}, {9.5, 0, "10"}, {99.75, 1, "99.8"}, {999.96875, 1, "1000.0"}, {0.09375, 1, "0.1"}, {0.0625, 0, "0"}, {0.03125, 1, "0.0"},
		// a minus, also if all digits are 0
		{-0.0001, 2, "-0.00"}, {-5e-324, 0, "-0"}, {-0.4, 0, "-0"}, {5e-324, 20, "0.00000000000000000000"},
		// large ones
		{1e20, 1, "100000000000000000000.0"}, {999999999999999868928, 0, "999999999999999868928"}, {-999999999999999868928, 2, "-999999999999999868928.00"}, {1e21, 2, "1e+21"}, {-1e21, 2, "-1e+21"}, {1.5e300, 0, "1.5e+300"}, {nan, 3, "NaN"}, {inf, 0, "Infinity"}, {-inf, 20, "-Infinity"},
	})
	checkRange(t, num.Fixed, []float64{0, 1.5, 1e21, nan, inf}, -1, 21, math.MinInt, math.MaxInt)
}

// P15: Exponential.
func TestExponential(t *testing.T) {
	checkWritten(t, num.Exponential, []written{
		{0, 0, "0e+0"}, {0, 2, "0.00e+0"}, {negZero, 1, "0.0e+0"}, {0, -1, "0e+0"}, {negZero, -1, "0e+0"}, {1, 0, "1e+0"}, {12345, 2, "1.23e+4"}, {-12345, 2, "-1.23e+4"}, {0.00012, 1, "1.2e-4"}, {1e300, 3, "1.000e+300"},
		{12345, -1, "1.2345e+4"}, {-0.00015, math.MinInt, "-1.5e-4"}, {100, -1, "1e+2"}, {5e-324, -5, "5e-324"}, {math.MaxFloat64, -1, "1.7976931348623157e+308"},
		// exact, of two the greater
		{25, 0, "3e+1"}, {35, 0, "4e+1"}, {-25, 0, "-3e+1"}, {12.5, 1, "1.3e+1"}, {95, 0, "1e+2"}, {99.9, 1, "1.0e+2"}, {9.99, 1, "1.0e+1"}, {0.00095, 0, "9e-4"}, {0.1, 20, "1.00000000000000005551e-1"}, {5e-324, 20, "4.94065645841246544177e-324"}, {math.MaxFloat64, 20, "1.79769313486231570815e+308"},
		// whatever n is
		{nan, 21, "NaN"}, {inf, math.MaxInt, "Infinity"}, {-inf, -1, "-Infinity"},
	})
	checkRange(t, num.Exponential, []float64{0, 1.5, -1e21}, 21, math.MaxInt)
}

// P15: Precision.
func TestPrecision(t *testing.T) {
	checkWritten(t, num.Precision, []written{
		{0, 1, "0"}, {0, 3, "0.00"}, {negZero, 2, "0.0"}, {5, 1, "5"}, {5, 3, "5.00"}, {123.456, 4, "123.5"}, {123.456, 3, "123"}, {-123.456, 6, "-123.456"}, {123456, 6, "123456"},
		// an exponent of n or more
		{123456, 5, "1.2346e+5"}, {12345, 2, "1.2e+4"}, {10, 1, "1e+1"}, {-10, 1, "-1e+1"}, {99.99, 3, "100"}, {99.99, 2, "1.0e+2"}, {999.96875, 3, "1.00e+3"}, {1e21, 21, "1.00000000000000000000e+21"}, {1e20, 21, "100000000000000000000"}, {math.MaxFloat64, 2, "1.8e+308"},
		// an exponent below -6
		{0.000001, 1, "0.000001"}, {0.00000123, 2, "0.0000012"}, {0.0000001, 1, "1e-7"}, {0.0000001, 2, "1.0e-7"}, {0.00000099999, 2, "0.0000010"}, {0.00000099, 2, "9.9e-7"}, {-0.05, 2, "-0.050"}, {0.1, 21, "0.100000000000000005551"}, {5e-324, 1, "5e-324"},
		// of two the greater
		{2.5, 1, "3"}, {-2.5, 1, "-3"}, {0.125, 2, "0.13"}, {25, 1, "3e+1"}, {1.25, 2, "1.3"}, {1.005, 3, "1.00"},
		// whatever n is
		{nan, 0, "NaN"}, {inf, 22, "Infinity"}, {-inf, math.MinInt, "-Infinity"},
	})
	checkRange(t, num.Precision, []float64{0, 1.5, 1e21}, 0, -1, 22, math.MinInt, math.MaxInt)
}

// scaled: the whole number that is nearest to x times 10 to the e, of two the greater; x is not below 0.
func scaled(x float64, e int) *big.Int {
	power := new(big.Int).Exp(big.NewInt(10), big.NewInt(int64(max(e, -e))), nil)
	r := new(big.Rat).SetFloat64(x)
	if e >= 0 {
		r.Mul(r, new(big.Rat).SetInt(power))
	} else {
		r.Quo(r, new(big.Rat).SetInt(power))
	}
	r.Add(r, big.NewRat(1, 2))
	return new(big.Int).Div(r.Num(), r.Denom())
}

// P15: any number, held against whole numbers of any size.
func TestDigitsAreExact(t *testing.T) {
	r := rand.New(rand.NewPCG(11, 12))
	numbers(func(x float64) {
		n := r.IntN(21)
		size := math.Abs(x)
		if s, err := num.Fixed(x, n); size < 1e21 {
			want := scaled(size, n).String()
			want = strings.Repeat("0", max(0, n+1-len(want))) + want
			if n > 0 {
				want = want[:len(want)-n] + "." + want[len(want)-n:]
			}
			if x < 0 {
				want = "-" + want
			}
			if s != want || err != nil {
				t.Fatalf("Fixed(%v, %d) = %q, %v, want %q", x, n, s, err, want)
			}
		}
		s, err := num.Exponential(x, n)
		mantissa, exponent, _ := strings.Cut(strings.TrimPrefix(s, "-"), "e")
		e, _ := strconv.Atoi(exponent)
		want := scaled(size, n-e).String()
		if x == 0 {
			want = strings.Repeat("0", n+1)
		}
		if got := strings.Replace(mantissa, ".", "", 1); got != want || len(got) != n+1 || err != nil {
			t.Fatalf("Exponential(%v, %d) = %q, %v, its digits should be %s", x, n, s, err, want)
		}
		p, err := num.Precision(x, n+1)
		if back, same := num.Read(p), num.Read(s); back != same || err != nil {
			t.Fatalf("Precision(%v, %d) = %q, %v, but Exponential %q", x, n+1, p, err, s)
		}
	})
}

// P16: Radix.
func TestRadix(t *testing.T) {
	checkWritten(t, num.Radix, []written{
		{0, 2, "0"}, {negZero, 2, "0"}, {nan, 2, "NaN"}, {inf, 16, "Infinity"}, {-inf, 36, "-Infinity"}, {1e21, 10, "1e+21"}, {-1.5e-9, 10, "-1.5e-9"}, {0.1, 10, "0.1"},
		{255, 16, "ff"}, {-255, 2, "-11111111"}, {35, 36, "z"}, {36, 36, "10"}, {1e21, 36, "5v1j4f4ds79m9s"}, {1 << 32, 16, "100000000"}, {math.Ldexp(1, 1023), 32, "8" + strings.Repeat("0", 204)},
		{0.5, 2, "0.1"}, {-0.5, 16, "-0.8"}, {-10.25, 2, "-1010.01"}, {35.5, 36, "z.i"}, {0.1, 2, "0.0001100110011001100110011001100110011001100110011001"}, {0.1, 16, "0.1999999999999a"}, {4503599627370495.5, 2, strings.Repeat("1", 52) + ".1"},
		{1.0 / 3, 3, "0.0222222222222222222222222222222222200200001000200220"},
		// 52 digits at most, even if all are 0
		{math.Ldexp(1, -52), 2, "0." + strings.Repeat("0", 51) + "1"}, {math.Ldexp(1, -53), 2, "0." + strings.Repeat("0", 52)}, {-5e-324, 2, "-0." + strings.Repeat("0", 52)}, {5e-324, 36, "0." + strings.Repeat("0", 52)}, {1 + math.Ldexp(1, -52), 2, "1." + strings.Repeat("0", 51) + "1"},
	})
	checkRange(t, num.Radix, []float64{0, 1.5, nan, inf}, 1, 0, -1, 37, math.MinInt, math.MaxInt)
}

// radix: the same by fractions of any size.
func radix(x float64, base int) string {
	r := new(big.Rat).SetFloat64(math.Abs(x))
	whole := new(big.Int).Div(r.Num(), r.Denom())
	s := whole.Text(base)
	if x < 0 {
		s = "-" + s
	}
	r.Sub(r, new(big.Rat).SetInt(whole))
	if r.Sign() > 0 {
		s += "."
	}
	for i := 0; i < 52 && r.Sign() > 0; i++ {
		r.Mul(r, big.NewRat(int64(base), 1))
		whole.Div(r.Num(), r.Denom())
		s += whole.Text(base)
		r.Sub(r, new(big.Rat).SetInt(whole))
	}
	return s
}

// P16: any number to any base.
func TestRadixIsExact(t *testing.T) {
	base := 2
	numbers(func(x float64) {
		if base = base%36 + 1; base == 1 || base == 10 {
			base++
		}
		if x == 0 {
			return
		}
		if got, err := num.Radix(x, base); got != radix(x, base) || err != nil {
			t.Fatalf("Radix(%v, %d) = %q, %v, want %q", x, base, got, err, radix(x, base))
		}
	})
}

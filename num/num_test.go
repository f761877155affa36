package num_test

import (
	"math"
	"math/big"
	"math/rand/v2"
	"strconv"
	"strings"
	"testing"

	"ecmacore/num"
)

var (
	nan     = math.NaN()
	inf     = math.Inf(1)
	negZero = math.Copysign(0, -1)
)

func same(a, b float64) bool {
	return a != a && b != b || a == b && math.Signbit(a) == math.Signbit(b)
}

// numbers goes through numbers of every size: edges, powers of two and ten with what lies next to them, and any bits.
func numbers(yield func(float64)) {
	for _, x := range []float64{0, negZero, 1, 10, 0.5, 1.5, 2.5, math.MaxFloat64, 5e-324, 2.2250738585072014e-308, 2.225073858507201e-308, 1 << 53, 1<<53 + 2, 1e21, 1e-6, 1e-7} {
		yield(x)
		yield(-x)
	}
	next := func(x float64) {
		yield(x)
		yield(-math.Nextafter(x, 0))
		yield(math.Nextafter(x, inf))
	}
	for e := -1074; e < 1024; e += 3 {
		next(math.Ldexp(1, e))
	}
	for e := -323; e < 309; e++ {
		x, _ := strconv.ParseFloat("1e"+strconv.Itoa(e), 64)
		next(x)
	}
	r := rand.New(rand.NewPCG(5, 6))
	for range 2000 {
		if x := math.Float64frombits(r.Uint64()); x-x == 0 {
			yield(x)
		}
		yield(math.Ldexp(float64(r.IntN(1<<20)), -r.IntN(24)))
	}
}

// P12: how numbers are written.
func TestText(t *testing.T) {
	for _, c := range []struct {
		x    float64
		want string
	}{
		{nan, "NaN"}, {inf, "Infinity"}, {-inf, "-Infinity"}, {0, "0"}, {negZero, "0"},
		{1, "1"}, {-1, "-1"}, {10, "10"}, {120, "120"}, {1.5, "1.5"}, {-123.25, "-123.25"}, {0.1, "0.1"}, {0.3, "0.3"}, {0.1 + 0.2000000001, "0.3000000001"},
		// k <= n <= 21
		{1e20, "100000000000000000000"}, {1.5e20, "150000000000000000000"}, {123456789012345680000, "123456789012345680000"}, {999999999999999900000, "999999999999999900000"},
		{1e21, "1e+21"}, {1.5e21, "1.5e+21"}, {-1e21, "-1e+21"}, {1e22, "1e+22"},
		// 0 < n < k
		{12345.678, "12345.678"}, {9007199254740991, "9007199254740991"}, {4503599627370495.5, "4503599627370495.5"},
		// -6 < n <= 0
		{0.5, "0.5"}, {0.05, "0.05"}, {0.000001, "0.000001"}, {0.00000123, "0.00000123"}, {0.0000001, "1e-7"}, {0.000000123, "1.23e-7"}, {-1e-7, "-1e-7"},
		// the fewest digits, and of these the nearest
		{5e-324, "5e-324"}, {1e-323, "1e-323"}, {2.2250738585072014e-308, "2.2250738585072014e-308"}, {math.MaxFloat64, "1.7976931348623157e+308"}, {1e23, "1e+23"}, {9.5e-322, "9.5e-322"}, {2e-44, "2e-44"}, {9007199254740993, "9007199254740992"},
		// two are equally near: the even one
		{1.0 / (1 << 25), "2.9802322387695312e-8"}, {10.0 / (1 << 24), "5.960464477539062e-7"}, {14.0 / (1 << 24), "8.344650268554688e-7"},
	} {
		if got := num.Text(c.x); got != c.want {
			t.Errorf("Text(%g) = %q, want %q", c.x, got, c.want)
		}
	}
}

// digitsOf: the digits of a written number without zeros at its ends.
func digitsOf(s string) string {
	s, _, _ = strings.Cut(s, "e")
	return strings.Trim(strings.NewReplacer("-", "", ".", "").Replace(s), "0")
}

// P12, P13: what is written tells the number, and no fewer digits do, nor do other ones come nearer.
func TestTextIsShortest(t *testing.T) {
	numbers(func(x float64) {
		s := num.Text(x)
		if back := num.Read(s); back != x || num.ReadFloat(s) != x {
			t.Fatalf("Read(Text(%g)) = %g", x, back)
		}
		k := len(digitsOf(s))
		if x == 0 || k == 1 {
			return
		}
		if f := strconv.FormatFloat(x, 'e', k-2, 64); num.Read(f) == x {
			t.Fatalf("Text(%g) = %q, but %q is shorter", x, s, f)
		}
		if f := strconv.FormatFloat(x, 'e', k-1, 64); num.Read(f) == x && digitsOf(f) != digitsOf(s) {
			t.Fatalf("Text(%g) = %q, but %q is nearer", x, s, f)
		}
	})
}

// P14: Int, Uint32, Int32.
func TestInt(t *testing.T) {
	for _, c := range []struct{ x, want float64 }{
		{nan, 0}, {inf, inf}, {-inf, -inf}, {0, 0}, {negZero, negZero}, {0.9, 0}, {-0.9, negZero}, {3.7, 3}, {-3.7, -3}, {1e300, 1e300}, {4503599627370495.5, 4503599627370495}, {5e-324, 0},
	} {
		if got := num.Int(c.x); !same(got, c.want) {
			t.Errorf("Int(%v) = %v, want %v", c.x, got, c.want)
		}
	}
}

func TestBits(t *testing.T) {
	for _, x := range []float64{nan, inf, -inf} {
		if u, i := num.Uint32(x), num.Int32(x); u != 0 || i != 0 {
			t.Errorf("Uint32, Int32(%v) = %d, %d", x, u, i)
		}
	}
	check := func(x float64) {
		whole, _ := new(big.Float).SetFloat64(x).Int(nil)
		want := uint32(whole.And(whole, big.NewInt(math.MaxUint32)).Uint64())
		if u, i := num.Uint32(x), num.Int32(x); u != want || i != int32(want) {
			t.Errorf("Uint32, Int32(%v) = %d, %d, want %d, %d", x, u, i, want, int32(want))
		}
	}
	for _, x := range []float64{0.5, 1, 1 << 31, 1<<31 - 1, 1<<31 - 0.5, 1 << 32, 1<<32 - 1, 1<<32 + 5.5, 1 << 53, 1<<53 - 1, 1 << 63, 1 << 64, 1<<64 + 1<<12, 1 << 83, 1<<84 - 1<<31, 1 << 85, 1e21, 1e300} {
		check(x)
		check(-x)
	}
	numbers(check)
}

package num_test

import (
	"math"
	"math/big"
	"math/rand/v2"
	"strings"
	"testing"

	"ecmacore/num"
)

// P13, P14: all of a text, and what stands at its front.
func TestRead(t *testing.T) {
	for _, c := range []struct {
		s           string
		read, front float64
	}{
		// nothing, white space
		{"", 0, nan}, {" \t\n\u00a0\ufeff\u2028", 0, nan}, {"\u30007\u2029", 7, 7}, {"\u200b7", nan, nan}, {"1 2", nan, 1},
		// to the base 16
		{"0x1F", 31, 0}, {" 0XaBc\n", 0xabc, 0}, {"0x", nan, 0}, {"0xg", nan, 0}, {"0x1g", nan, 0}, {"-0x1", nan, negZero}, {"+0x1", nan, 0}, {"0x1.8", nan, 0}, {"0x0", 0, 0}, {"0x 1", nan, 0}, {"00x1", nan, 0},
		// Infinity
		{"Infinity", inf, inf}, {"+Infinity", inf, inf}, {"-Infinity", -inf, -inf}, {" Infinity ", inf, inf}, {"Infinit", nan, nan}, {"infinity", nan, nan}, {"INFINITY", nan, nan}, {"inf", nan, nan}, {"Infinityx", nan, inf}, {"--Infinity", nan, nan}, {"NaN", nan, nan},
		// decimal numbers
		{"0", 0, 0}, {"-0", negZero, negZero}, {"+0", 0, 0}, {"-0.0e5", negZero, negZero}, {"12", 12, 12}, {"0012", 12, 12}, {"5.", 5, 5}, {".5", .5, .5}, {"-.5", -.5, -.5}, {"5.e1", 50, 50}, {"1.5E+2", 150, 150}, {"1.5e-1", .15, .15}, {"1e05", 1e5, 1e5},
		// what is none
		{".", nan, nan}, {"+", nan, nan}, {"-", nan, nan}, {"e5", nan, nan}, {".e5", nan, nan}, {"- 1", nan, nan}, {"+-1", nan, nan}, {"abc", nan, nan}, {"\xff", nan, nan}, {"\u0661", nan, nan}, {"0b1", nan, 0}, {"0o7", nan, 0}, {"1_000", nan, 1}, {"1n", nan, 1}, {"1f", nan, 1}, {"0x1p3", nan, 0},
		// what is one at the front alone
		{"1e", nan, 1}, {"1e+", nan, 1}, {"1e-x", nan, 1}, {"1.5.5", nan, 1.5}, {"1..5", nan, 1}, {"1e5.5", nan, 1e5}, {"1e5e5", nan, 1e5}, {"12px", nan, 12}, {"1-2", nan, 1},
		// the nearest, of two the even one
		{"9007199254740993", 9007199254740992, 9007199254740992}, {"9007199254740995", 9007199254740996, 9007199254740996}, {"9007199254740993.0000000000000000000000000001", 9007199254740994, 9007199254740994},
		{"0x20000000000001", 9007199254740992, 0}, {"0x20000000000003", 9007199254740996, 0}, {"0x2000000000000100000000000000000001", 0x2000000000000200000000000000000000, 0},
		// too large, too small
		{"1.7976931348623157e308", math.MaxFloat64, math.MaxFloat64}, {"1.7976931348623158e308", math.MaxFloat64, math.MaxFloat64}, {"1.7976931348623159e308", inf, inf}, {"-1e309", -inf, -inf}, {"1e99999999999999999999", inf, inf}, {"-1e-99999999999999999999", negZero, negZero}, {"0e99999999999999999999", 0, 0}, {"2.4703282292062328e-324", 5e-324, 5e-324}, {"2.4703282292062327e-324", 0, 0},
	} {
		if got := num.Read(c.s); !same(got, c.read) {
			t.Errorf("Read(%q) = %v, want %v", c.s, got, c.read)
		}
		if got := num.ReadFloat(c.s); !same(got, c.front) {
			t.Errorf("ReadFloat(%q) = %v, want %v", c.s, got, c.front)
		}
	}
}

// P13: the nearest, also where digits are many.
func TestReadLong(t *testing.T) {
	zeros := strings.Repeat("0", 200000)
	between := new(big.Float).SetInt64(1<<53 + 1)
	half := between.SetMantExp(between, -1075).Text('e', 2000) // half way between two numbers
	half = strings.Replace(half, "e", zeros+"e", 1)
	above := strings.Replace(half, "e", "1e", 1)
	for _, c := range []struct {
		name, s string
		want    float64
	}{
		{"1 and zeros, less as many", "1" + zeros + "e-200000", 1},
		{"zeros and 1, more as many", "0." + zeros + "1e200001", 1},
		{"zeros, 12", zeros + "12", 12},
		{"zeros behind", "12." + zeros, 12},
		{"1 and zeros", "1" + zeros, inf},
		{"zeros and 1", "." + zeros + "1", 0},
		{"a long exponent", "1e" + zeros + "5", 1e5},
		{"half way", half, math.Ldexp(1, -1022)},
		{"a little above", above, math.Ldexp(1<<52+1, -1074)},
		{"zeros to the base 16", "0x" + zeros + "1F", 31},
		{"1 and zeros to the base 16", "0x1" + zeros, inf},
	} {
		if got := num.Read(c.s); got != c.want {
			t.Errorf("%s: %v, want %v", c.name, got, c.want)
		}
		if strings.HasPrefix(c.s, "0x") {
			continue
		}
		if got := num.ReadFloat("-" + c.s + "x"); got != -c.want {
			t.Errorf("%s: at the front %v, want %v", c.name, got, -c.want)
		}
	}
}

// P13: any decimal number, held against whole numbers of any size.
func TestReadAny(t *testing.T) {
	r := rand.New(rand.NewPCG(7, 8))
	some := func(most int) string {
		b := make([]byte, r.IntN(most))
		for i := range b {
			b[i] = byte('0' + r.IntN(10))
		}
		return string(b)
	}
	for range 5000 {
		s := "1" + some(30) + "." + some(30) + "e" + []string{"", "+", "-"}[r.IntN(3)] + "0" + some(4)
		exact, ok := new(big.Rat).SetString(s)
		if !ok {
			t.Fatal(s)
		}
		if want, _ := exact.Float64(); num.Read(s) != want {
			t.Fatalf("Read(%q) = %v, want %v", s, num.Read(s), want)
		}
	}
}

// P14: whole numbers to a base.
func TestReadInt(t *testing.T) {
	for _, c := range []struct {
		s          string
		base, want float64
	}{
		{"12", 10, 12}, {" \u00a0-12\ufeff", 10, -12}, {"+12", 10, 12}, {"12px", 10, 12}, {"1.9", 10, 1}, {"1e3", 10, 1}, {"0012", 10, 12}, {"-0", 10, negZero}, {"0", 10, 0},
		{"", 10, nan}, {" ", 10, nan}, {"-", 10, nan}, {"+-1", 10, nan}, {"- 1", 10, nan}, {"x", 10, nan}, {"\xff", 10, nan}, {".5", 10, nan}, {"Infinity", 10, nan},
		// the base
		{"z", 36, 35}, {"Zz", 36, 1295}, {"zz", 35, nan}, {"102", 2, 2}, {"2", 2, nan}, {"78", 8, 7}, {"8", 8, nan}, {"Infinity", 36, 1461559270678},
		{"1", 1, nan}, {"1", 37, nan}, {"1", -1, nan}, {"1", -16, nan}, {"1", 1e300, 1}, {"11", 2.9, 3}, {"11", -0.9, 11}, {"11", nan, 11}, {"11", inf, 11}, {"11", -inf, 11}, {"11", 1<<32 + 2, 3}, {"11", 2 - 1<<32, 3}, {"11", 1 << 32, 11}, {"1", 1<<32 - 2, nan},
		// 0x
		{"0x1f", 0, 31}, {"0X1F", 16, 31}, {"-0x1f", 0, -31}, {"-0x1f", 16, -31}, {"0x1f", 10, 0}, {"0x1f", 36, 33*36*36 + 36 + 15}, {"0x", 0, nan}, {"0x", 16, nan}, {"0xg", 16, nan}, {"0x0x1", 16, 0}, {"010", 0, 10}, {"1f", 0, 1}, {"1f", 16, 31},
		// the nearest, of two the even one
		{"9007199254740993", 10, 9007199254740992}, {"9007199254740995", 10, 9007199254740996}, {"18446744073709551616", 10, 1 << 64}, {"18446744073709553664", 10, 1 << 64}, {"18446744073709553665", 10, 1<<64 + 1<<12},
		{strings.Repeat("1", 1024), 2, inf}, {"1" + strings.Repeat("0", 1023), 2, math.Ldexp(1, 1023)}, {strings.Repeat("1", 53) + strings.Repeat("0", 971), 2, math.MaxFloat64}, {strings.Repeat("1", 53) + "0" + strings.Repeat("1", 970), 2, math.MaxFloat64}, {"-1" + strings.Repeat("0", 1024), 2, -inf}, {strings.Repeat("z", 200000), 36, inf}, {strings.Repeat("0", 200000) + "z", 36, 35},
	} {
		if got := num.ReadInt(c.s, c.base); !same(got, c.want) {
			t.Errorf("ReadInt(%.80q, %v) = %v, want %v", c.s, c.base, got, c.want)
		}
	}
}

// P14: any whole number to any base.
func TestReadIntAny(t *testing.T) {
	r := rand.New(rand.NewPCG(9, 10))
	for base := 2; base <= 36; base++ {
		for range 300 {
			whole := new(big.Int).SetUint64(r.Uint64())
			whole.Lsh(whole, uint(r.IntN(960)))
			whole.Add(whole, big.NewInt(int64(r.IntN(3)-1)))
			want, _ := new(big.Float).SetInt(whole).Float64()
			s := whole.Text(base)
			if got := num.ReadInt(s+"!", float64(base)); got != want {
				t.Fatalf("ReadInt(%q, %d) = %v, want %v", s, base, got, want)
			}
			if got := num.ReadInt("-"+strings.ToUpper(s), float64(base)); got != -want {
				t.Fatalf("ReadInt of -%q, %d = %v, want %v", s, base, got, -want)
			}
		}
	}
}

package fraction

import (
	"math/big"
	"strings"
	"testing"

	"figures/rounding"
)

func values(digits string) []int {
	list := make([]int, len(digits))
	for i := range list {
		list[i] = strings.IndexByte("0123456789abcdef", digits[i])
	}
	return list
}

// times is the fraction of the digits in a base, times root to the power.
func times(digits string, base int, root int64, power int) *big.Rat {
	whole, _ := new(big.Int).SetString(digits, base)
	scale := new(big.Int).Exp(big.NewInt(root), big.NewInt(int64(max(power, -power))), nil)
	r := new(big.Rat).SetInt(whole)
	if power < 0 {
		return r.Quo(r, new(big.Rat).SetInt(scale))
	}
	return r.Mul(r, new(big.Rat).SetInt(scale))
}

// check compares the power, the bits and the rest with those of r.
func check(t *testing.T, f *Fraction, r *big.Rat, count int) {
	t.Helper()
	low := times("1", 10, 2, f.Power())
	if r.Cmp(low) < 0 || r.Cmp(times("2", 10, 2, f.Power())) >= 0 {
		t.Errorf("%v has the power %d", r, f.Power())
		return
	}
	unit := times("1", 10, 2, f.Power()-count+1)
	bits, rest := f.Take(count)
	left := new(big.Rat).Sub(r, new(big.Rat).Mul(unit, big.NewRat(int64(bits), 1)))
	side := new(big.Rat).Mul(left, big.NewRat(2, 1)).Cmp(unit)
	want := rounding.Half + side
	if left.Sign() == 0 {
		want = rounding.Exact
	}
	if left.Sign() < 0 || left.Cmp(unit) >= 0 || rest != want {
		t.Errorf("%v: %d bits are %x, rest %d, want %d", r, count, bits, rest, want)
	}
}

func TestTake(t *testing.T) {
	list := []string{"1", "2", "3", "7", "8", "1023", "1024", "1025", "99999999", "4611686018427387904", "9007199254740993", "18014398509481985", strings.Repeat("9", 300), "1" + strings.Repeat("0", 300)}
	for _, digits := range list {
		for _, power := range []int{-340, -53, -2, -1, 0, 1, 2, 60} {
			for _, count := range []int{-3, -1, 0, 1, 2, 11, 24, 53, 62} {
				check(t, FromDecimal(values(digits), power), times(digits, 10, 10, power), count)
				check(t, FromHex(values(digits), power), times(digits, 16, 2, power), count)
			}
		}
	}
}

// What is far beyond the formats stays so; what is not is not taken for it.
func TestFarDecimals(t *testing.T) {
	for _, k := range []struct {
		digits          string
		power           int
		atLeast, atMost int
	}{
		{"1", 308, 1023, 1023}, {"1", 400, 1328, 1328}, {"1", 401, 1100, 10000}, {"1", 1000000, 1100, 10000}, {"1" + strings.Repeat("0", 899), 1, 1100, 10000},
		{"1", -324, -1077, -1077}, {"1", -400, -1329, -1329}, {"1", -401, -10000, -1100}, {"1", -1000000, -10000, -1100}, {"1" + strings.Repeat("0", 890), -890, 0, 0},
	} {
		power := FromDecimal(values(k.digits), k.power).Power()
		if power < k.atLeast || power > k.atMost {
			t.Errorf("%.10s times ten to %d has the power %d", k.digits, k.power, power)
		}
	}
}

func TestFarHex(t *testing.T) {
	for _, power := range []int{-2000000, -5000, 5000, 2000000} {
		if got := FromHex(values("18"), power).Power(); got != power+4 {
			t.Errorf("0x18p%d has the power %d", power, got)
		}
	}
}

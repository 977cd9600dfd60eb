package nat

import (
	"math/big"
	"strings"
	"testing"
)

// whole is the same number by the library.
func whole(n *Nat) *big.Int {
	b := new(big.Int)
	for i := len(n.limbs) - 1; i >= 0; i-- {
		b.Lsh(b, limbBits)
		b.Add(b, big.NewInt(int64(n.limbs[i])))
	}
	return b
}

func check(t *testing.T, what string, n *Nat, want *big.Int) {
	t.Helper()
	if whole(n).Cmp(want) != 0 {
		t.Errorf("%s = %v, want %v", what, whole(n), want)
	}
	for i, limb := range n.limbs {
		if limb < 0 || limb >= base || (limb == 0 && i == len(n.limbs)-1) {
			t.Errorf("%s: limb %d of %d is %d", what, i, len(n.limbs), limb)
		}
	}
	if n.IsZero() != (want.Sign() == 0) || n.BitLength() != want.BitLen() {
		t.Errorf("%s: zero %v, %d bits, want %v, %d", what, n.IsZero(), n.BitLength(), want.Sign() == 0, want.BitLen())
	}
}

func values(digits string) []int {
	list := make([]int, len(digits))
	for i := range list {
		list[i] = strings.IndexByte("0123456789abcdef", digits[i])
	}
	return list
}

// texts are digits of lengths around those of groups and limbs.
func texts() []string {
	list := []string{"", "0", "1", "9", "000", "0000000000000000000000001", "1073741823", "1073741824", "1073741825", "1152921504606846975", "1152921504606846976"}
	for n := 1; n < 40; n++ {
		list = append(list, strings.Repeat("9", n), "1"+strings.Repeat("0", n), strings.Repeat("7", n)+"1")
	}
	return append(list, strings.Repeat("9", 900))
}

func make10(text string) (*Nat, *big.Int) {
	want, _ := new(big.Int).SetString("0"+text, 10)
	return FromDigits(values(text), 10), want
}

func TestFromDigits(t *testing.T) {
	for _, text := range texts() {
		n, want := make10(text)
		check(t, "base 10: "+text, n, want)
		want, _ = new(big.Int).SetString("0"+text, 16)
		check(t, "base 16: "+text, FromDigits(values(text), 16), want)
	}
	want, _ := new(big.Int).SetString(strings.Repeat("f", 901), 16)
	check(t, "base 16", FromDigits(values(strings.Repeat("f", 901)), 16), want)
}

func TestMulAdd(t *testing.T) {
	for _, text := range texts() {
		for _, factor := range []int{0, 1, 2, 5, 1000000000, base - 1} {
			for _, addend := range []int{0, 1, base - 1} {
				n, want := make10(text)
				n.MulAdd(factor, addend)
				want.Mul(want, big.NewInt(int64(factor)))
				check(t, "MulAdd", n, want.Add(want, big.NewInt(int64(addend))))
			}
		}
	}
}

func TestPowers(t *testing.T) {
	for _, text := range texts() {
		for _, power := range []int{-1, 0, 1, 11, 12, 13, 29, 30, 31, 59, 60, 61, 1300} {
			up := big.NewInt(int64(max(power, 0)))
			n, want := make10(text)
			n.MulPowerOfFive(power)
			check(t, "MulPowerOfFive", n, want.Mul(want, up.Exp(big.NewInt(5), up, nil)))
			n, want = make10(text)
			n.Shift(power)
			check(t, "Shift", n, want.Lsh(want, uint(max(power, 0))))
		}
	}
}

func TestSubAndCompare(t *testing.T) {
	for _, first := range texts() {
		for _, second := range texts() {
			a, wantA := make10(first)
			b, wantB := make10(second)
			if got := Compare(a, b); got != wantA.Cmp(wantB) {
				t.Errorf("Compare(%s, %s) = %d", first, second, got)
			}
			if wantA.Cmp(wantB) >= 0 {
				a.Sub(b)
				check(t, "Sub", a, new(big.Int).Sub(wantA, wantB))
				check(t, "what Sub takes", b, wantB)
			}
		}
	}
}

func TestFromInt(t *testing.T) {
	for _, value := range []int{0, 1, 2, base - 1, base, base + 1, base*base - 1, base * base, 1<<53 - 1, 1<<63 - 1} {
		check(t, "FromInt", FromInt(value), big.NewInt(int64(value)))
	}
}

func TestDigits(t *testing.T) {
	for _, text := range texts() {
		n, want := make10(text)
		digits := ""
		for _, d := range n.Digits() {
			digits += string(rune('0' + d))
		}
		if want.Sign() == 0 {
			if digits != "" {
				t.Errorf("Digits of 0 = %q", digits)
			}
		} else if digits != want.String() {
			t.Errorf("Digits = %q, want %v", digits, want)
		}
		check(t, "what Digits are of", n, want)
	}
}

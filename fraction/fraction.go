// Package fraction holds numbers above 0 exactly and hands out their bits.
package fraction

import (
	"figures/nat"
	"figures/rounding"
)

// Decimals whose first digit has a power of ten above or below these are far
// beyond the numbers of every format, and so is two to these powers.
const (
	farTen = 400
	farTwo = 5000
)

// Fraction is over / under times two to power. At first over / under is at
// least 1 and less than 2, so that power is that of the number's first bit;
// bits that are taken are gone, and power is that of the next bit.
type Fraction struct {
	over  *nat.Nat
	under *nat.Nat
	power int
}

// FromDecimal is the number of decimal digits, the first not 0, times ten to
// the power. One that is far beyond all formats becomes another such number:
// all of them round alike, and powers of any size need no big numbers.
func FromDecimal(digits []int, power int) *Fraction {
	first := power + len(digits) - 1
	if first > farTen {
		return powerOfTwo(farTwo)
	}
	if first < -farTen {
		return powerOfTwo(-farTwo)
	}
	over := nat.FromDigits(digits, 10)
	under := one()
	if power >= 0 {
		over.MulPowerOfFive(power)
	} else {
		under.MulPowerOfFive(-power)
	}
	return reduced(over, under, power)
}

// FromHex is the number of digits of base 16, the first not 0, times two to
// the power.
func FromHex(digits []int, power int) *Fraction {
	over := nat.FromDigits(digits, 16)
	under := one()
	return reduced(over, under, power)
}

func powerOfTwo(power int) *Fraction {
	over := one()
	under := one()
	return &Fraction{over: over, under: under, power: power}
}

func one() *nat.Nat {
	return nat.FromDigits([]int{1}, 10)
}

// reduced brings over / under to at least 1 and less than 2; neither is 0.
func reduced(over *nat.Nat, under *nat.Nat, power int) *Fraction {
	longer := over.BitLength()
	longer -= under.BitLength()
	over.Shift(-longer)
	under.Shift(longer)
	power += longer
	// Of the same length now, so one doubling is enough.
	if nat.Compare(over, under) < 0 {
		over.Shift(1)
		power--
	}
	return &Fraction{over: over, under: under, power: power}
}

// Power is the power of two of the first bit, if none has been taken.
func (f *Fraction) Power() int {
	return f.power
}

// Take takes the first count bits, at most 62, and tells how what is left
// compares with half of the last one's worth. With a count of 0 that worth is
// twice the first bit's, and a count below 0 says that it is yet greater.
func (f *Fraction) Take(count int) (int, int) {
	if count < 0 {
		return 0, rounding.Below
	}
	bits := 0
	for i := 0; i < count; i++ {
		bits *= 2
		if nat.Compare(f.over, f.under) >= 0 {
			f.over.Sub(f.under)
			bits++
		}
		f.over.Shift(1)
		f.power--
	}
	return bits, f.rest()
}

// rest compares what is left with half of the last bit's worth: that half is
// the worth of the next bit, to which over / under is the proportion.
func (f *Fraction) rest() int {
	if f.over.IsZero() {
		return rounding.Exact
	}
	switch nat.Compare(f.over, f.under) {
	case -1:
		return rounding.Below
	case 0:
		return rounding.Half
	}
	return rounding.Above
}

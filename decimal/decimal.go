// Package decimal holds numbers above 0 as decimals, exactly, compares them and
// rounds them to fewer digits.
package decimal

import (
	"figures/nat"
	"figures/rounding"
)

// Decimal is a number: its digits, the first of them not 0, times ten to power.
type Decimal struct {
	digits []int
	power  int
}

// FromBinary is factor, which is above 0, times two to the power.
func FromBinary(factor int, power int) *Decimal {
	n := nat.FromInt(factor)
	if power >= 0 {
		n.Shift(power)
		return &Decimal{digits: n.Digits()}
	}
	// A half is five tenths.
	n.MulPowerOfFive(-power)
	return &Decimal{digits: n.Digits(), power: power}
}

// FirstPower is the power of ten of the first digit.
func (d *Decimal) FirstPower() int {
	return d.power + len(d.digits) - 1
}

// LastPower is the power of ten of the last digit.
func (d *Decimal) LastPower() int {
	return d.power
}

// Digits are all digits of the number.
func (d *Decimal) Digits() []int {
	return d.first(len(d.digits))
}

// Compare answers -1, 0 or 1: a is less than b, the same, or greater.
func Compare(a *Decimal, b *Decimal) int {
	first := a.FirstPower()
	other := b.FirstPower()
	if first != other {
		return order(first, other)
	}
	for i := 0; i < len(a.digits) || i < len(b.digits); i++ {
		digit := a.digitAt(i)
		another := b.digitAt(i)
		if digit != another {
			return order(digit, another)
		}
	}
	return 0
}

func order(a int, b int) int {
	if a < b {
		return -1
	}
	return 1
}

// digitAt is the digit in a place from the first on, 0 behind the last.
func (d *Decimal) digitAt(place int) int {
	if place < 0 || place >= len(d.digits) {
		return 0
	}
	return d.digits[place]
}

// Neighbour is the decimal in steps of ten to the power, which is at most that
// of the first digit, to which the mode rounds the number. It has no noughts
// at its end.
func (d *Decimal) Neighbour(power int, mode int) *Decimal {
	digits := d.Rounded(power, mode, false)
	for len(digits) > 1 && digits[len(digits)-1] == 0 {
		digits = digits[:len(digits)-1]
		power++
	}
	return &Decimal{digits: digits, power: power}
}

// Rounded is the number in steps of ten to the power, rounded by the mode to
// a whole number of them: the digits of how many. There is no digit if it is 0.
func (d *Decimal) Rounded(power int, mode int, negative bool) []int {
	count := len(d.digits) + d.power - power
	kept := d.first(count)
	odd := len(kept) > 0 && kept[len(kept)-1]%2 == 1
	rest := d.behind(count)
	if rounding.ToUpper(mode, negative, odd, rest) {
		return next(kept)
	}
	return kept
}

// first are so many digits from the first on, noughts where there are no more.
func (d *Decimal) first(count int) []int {
	list := []int{}
	for i := 0; i < count; i++ {
		digit := d.digitAt(i)
		list = append(list, digit)
	}
	return list
}

// behind compares what stands behind the first count digits with half of the
// worth of the last of these. With a count of 0 that worth is ten times the
// first digit's, and a count below 0 says that it is yet greater.
func (d *Decimal) behind(count int) int {
	if count < 0 {
		return rounding.Below
	}
	if count >= len(d.digits) {
		return rounding.Exact
	}
	digit := d.digits[count]
	more := anyAbove0(d.digits[count+1:])
	switch {
	case digit == 0 && !more:
		return rounding.Exact
	case digit < 5:
		return rounding.Below
	case digit == 5 && !more:
		return rounding.Half
	}
	return rounding.Above
}

func anyAbove0(digits []int) bool {
	for _, digit := range digits {
		if digit > 0 {
			return true
		}
	}
	return false
}

// next are the digits of the next whole number.
func next(digits []int) []int {
	nines := 0
	for i := len(digits) - 1; i >= 0 && digits[i] == 9; i-- {
		nines++
	}
	list := []int{}
	if nines == len(digits) {
		list = append(list, 1)
	}
	for i, digit := range digits {
		switch {
		case i+nines >= len(digits):
			digit = 0
		case i+nines == len(digits)-1:
			digit++
		}
		list = append(list, digit)
	}
	return list
}

package figures

import (
	"figures/api"
	"figures/fraction"
	"figures/pattern"
	"figures/rounding"
	"figures/scan"
)

// patternOf is the pattern of a number that was read, and the flags (P5).
func patternOf(number scan.Number, layout pattern.Layout, mode int) (int, int) {
	switch number.Kind {
	case scan.NaN:
		return layout.NaN(), 0
	case scan.Infinity:
		return layout.Signed(layout.Infinity, number.Negative), 0
	}
	if len(number.Digits) == 0 {
		return layout.Signed(0, number.Negative), 0
	}
	exact := exactly(number)
	amount, flags := roundedAmount(exact, layout, number.Negative, mode)
	return layout.Signed(amount, number.Negative), flags
}

func exactly(number scan.Number) *fraction.Fraction {
	if number.Kind == scan.Hex {
		return fraction.FromHex(number.Digits, number.Power)
	}
	return fraction.FromDecimal(number.Digits, number.Power)
}

// roundedAmount rounds a number to an amount of the format (P6, P7).
func roundedAmount(exact *fraction.Fraction, layout pattern.Layout, negative bool, mode int) (int, int) {
	beyond := exact.Power() > layout.Bias
	lower, rest := lowerNeighbour(exact, layout)
	if rest == rounding.Exact {
		return lower, 0
	}
	flags := api.Inexact
	if lower < layout.LeastNormal {
		flags += api.Underflow
	}
	amount := lower
	if rounding.ToUpper(mode, negative, lower%2 == 1, rest) {
		amount++
	}
	if beyond || amount == layout.Infinity {
		flags += api.Overflow
	}
	return amount, flags
}

// lowerNeighbour is the greatest finite amount whose number is not above the
// exact one, and how what is left compares with half of the way to the next.
func lowerNeighbour(exact *fraction.Fraction, layout pattern.Layout) (int, int) {
	power := exact.Power()
	least := layout.LeastPower()
	// Of T and all above it the modes make what they make of a number just
	// below T.
	if power > layout.Bias {
		return layout.Infinity - 1, rounding.Above
	}
	if power < least {
		return exact.Take(layout.LowerBits + 1 - (least - power))
	}
	bits, rest := exact.Take(layout.LowerBits + 1)
	// The exponent bits are one more than power - least: the first of the bits
	// taken adds that one.
	return bits + (power-least)*layout.LeastNormal, rest
}

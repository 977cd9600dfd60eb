// Package pattern knows how the formats lay out their patterns.
package pattern

import "figures/api"

// Layout is how a format lays out its patterns.
type Layout struct {
	LowerBits   int // how many bits stand below those of the exponent
	Bias        int // also the power of two of the greatest finite numbers' first bit
	LeastNormal int // the amount of the least normal number
	Infinity    int // the amount of infinity
	Sign        int // what the sign adds to an amount
}

// Of is the layout of a format.
func Of(format int) Layout {
	switch format {
	case api.Half:
		return Layout{LowerBits: 10, Bias: 15, LeastNormal: 1 << 10, Infinity: 31 << 10, Sign: 1 << 15}
	case api.Single:
		return Layout{LowerBits: 23, Bias: 127, LeastNormal: 1 << 23, Infinity: 255 << 23, Sign: 1 << 31}
	}
	return Layout{LowerBits: 52, Bias: 1023, LeastNormal: 1 << 52, Infinity: 2047 << 52, Sign: -1 << 63}
}

// LeastPower is the power of two that the least normal number is.
func (l Layout) LeastPower() int {
	return 1 - l.Bias
}

// NaN is the pattern that a text gets which says nan.
func (l Layout) NaN() int {
	return l.Infinity + l.LeastNormal/2
}

// Signed is the pattern with an amount and a sign.
func (l Layout) Signed(amount int, negative bool) int {
	if negative {
		return amount + l.Sign
	}
	return amount
}

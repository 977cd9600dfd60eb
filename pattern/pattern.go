// Package pattern knows how the formats lay out their patterns.
package pattern

import "figures/api"

// Layout is how a format lays out its patterns.
type Layout struct {
	LowerBits   int // how many bits stand below those of the exponent
	Bias        int // also the power of two of the greatest finite numbers' first bit
	LeastNormal int // the amount of the least normal number
	Infinity    int // the amount of infinity
	Sign        int // what the sign adds to an amount
}

// Of is the layout of a format.
func Of(format int) Layout {
	switch format {
	case api.Half:
		return Layout{LowerBits: 10, Bias: 15, LeastNormal: 1 << 10, Infinity: 31 << 10, Sign: 1 << 15}
	case api.Single:
		return Layout{LowerBits: 23, Bias: 127, LeastNormal: 1 << 23, Infinity: 255 << 23, Sign: 1 << 31}
	}
	return Layout{LowerBits: 52, Bias: 1023, LeastNormal: 1 << 52, Infinity: 2047 << 52, Sign: -1 << 63}
}

// LeastPower is the power of two that the least normal number is.
func (l Layout) LeastPower() int {
	return 1 - l.Bias
}

// NaN is the pattern that a text gets which says nan.
func (l Layout) NaN() int {
	return l.Infinity + l.LeastNormal/2
}

// Signed is the pattern with an amount and a sign.
func (l Layout) Signed(amount int, negative bool) int {
	if negative {
		return amount + l.Sign
	}
	return amount
}

// Has tells whether bits is a pattern of the format.
func (l Layout) Has(bits int) bool {
	// Double's sign is that of the int: every int is a pattern.
	return l.Sign < 0 || (bits >= 0 && bits < 2*l.Sign)
}

// Split is the amount of a pattern, and whether its sign is set.
func (l Layout) Split(bits int) (int, bool) {
	if bits&l.Sign == 0 {
		return bits, false
	}
	return bits - l.Sign, true
}

// Number is what a finite amount says: the first answer times two to the power
// that is the second.
func (l Layout) Number(amount int) (int, int) {
	least := l.LeastPower() - l.LowerBits
	if l.LeastNormal <= 0 || amount < l.LeastNormal {
		return amount, least
	}
	// The numbers from the least normal one to twice it stand as far from each
	// other as those below it.
	exponent := amount / l.LeastNormal
	return l.LeastNormal + amount%l.LeastNormal, least + exponent - 1
}

// Package pattern knows how the formats lay out their patterns.
package pattern

import "figures/api"

// Layout is how a format lays out its patterns.
type Layout struct {
	LowerBits   int // how many bits stand below those of the exponent
	Bias        int // also the power of two of the greatest finite numbers' first bit
	LeastNormal int // the amount of the least normal number
	Infinity    int // the amount of infinity
	Sign        int // what the sign adds to an amount
}

// Of is the layout of a format.
func Of(format int) Layout {
	switch format {
	case api.Half:
		return Layout{LowerBits: 10, Bias: 15, LeastNormal: 1 << 10, Infinity: 31 << 10, Sign: 1 << 15}
	case api.Single:
		return Layout{LowerBits: 23, Bias: 127, LeastNormal: 1 << 23, Infinity: 255 << 23, Sign: 1 << 31}
	}
	return Layout{LowerBits: 52, Bias: 1023, LeastNormal: 1 << 52, Infinity: 2047 << 52, Sign: -1 << 63}
}

// LeastPower is the power of two that the least normal number is.
func (l Layout) LeastPower() int {
	return 1 - l.Bias
}

// NaN is the pattern that a text gets which says nan.
func (l Layout) NaN() int {
	return l.Infinity + l.LeastNormal/2
}

// Signed is the pattern with an amount and a sign.
func (l Layout) Signed(amount int, negative bool) int {
	if negative {
		return amount + l.Sign
	}
	return amount
}

// Has tells whether bits is a pattern of the format.
func (l Layout) Has(bits int) bool {
	// Double's sign is that of the int: every int is a pattern.
	return l.Sign < 0 || (bits >= 0 && bits < 2*l.Sign)
}

// Split is the amount of a pattern, and whether its sign is set.
func (l Layout) Split(bits int) (int, bool) {
	if bits&l.Sign == 0 {
		return bits, false
	}
	return bits - l.Sign, true
}

// Number is what a finite amount says: the first answer times two to the power
// that is the second.
func (l Layout) Number(amount int) (int, int) {
	least := l.LeastPower() - l.LowerBits
	if l.LeastNormal <= 0 || amount < l.LeastNormal {
		return amount, least
	}
	// The numbers from the least normal one to twice it stand as far from each
	// other as those below it.
	exponent := amount / l.LeastNormal
	return l.LeastNormal + amount%l.LeastNormal, least + exponent - 1
}

// Span is what rounding to the nearest makes one number of: all from Low to
// High, these two being half of the way to the number's neighbours. The three
// stand in steps of two to Power.
type Span struct {
	Low    int
	Number int
	High   int
	Power  int
	Closed bool // Low and High belong to it
}

// Span is the span of a finite amount above 0.
func (l Layout) Span(amount int) Span {
	factor, power := l.Number(amount)
	// A quarter of the way to the next number is fine enough: below a power of
	// two the numbers stand half as far from each other as above it.
	s := Span{Low: 4*factor - 2, Number: 4 * factor, High: 4*factor + 2, Power: power - 2, Closed: amount%2 == 0}
	if factor == l.LeastNormal && amount > l.LeastNormal {
		s.Low++
	}
	return s
}

// Package shortest finds the decimal with the fewest digits that still tells a
// number from all others of its format.
package shortest

import (
	"figures/api"
	"figures/decimal"
	"figures/pattern"
)

// ends are the decimals between which all are read as one number.
type ends struct {
	low    *decimal.Decimal
	high   *decimal.Decimal
	closed bool // low and high themselves are read as it too
}

// Within is, of the decimals with the fewest digits within a span, the one
// nearest to its number; of two as near the one whose last digit is even.
func Within(span pattern.Span) *decimal.Decimal {
	exact := decimal.FromBinary(span.Number, span.Power)
	low := decimal.FromBinary(span.Low, span.Power)
	high := decimal.FromBinary(span.High, span.Power)
	e := ends{low: low, high: high, closed: span.Closed}
	last := exact.LastPower()
	for power := exact.FirstPower(); power > last; power-- {
		found, ok := e.nearest(exact, power)
		if ok {
			return found
		}
	}
	return exact
}

// nearest is the decimal in steps of ten to the power, within the ends, that
// is nearest to the exact one, if there is any.
func (e ends) nearest(exact *decimal.Decimal, power int) (*decimal.Decimal, bool) {
	// One of the two neighbours is the nearest of all. It may lie beyond the
	// ends and the other one within: the low end may be nearer than the high
	// one.
	for _, mode := range [3]int{api.Even, api.Up, api.Cut} {
		neighbour := exact.Neighbour(power, mode)
		if e.hold(neighbour) {
			return neighbour, true
		}
	}
	return nil, false
}

func (e ends) hold(d *decimal.Decimal) bool {
	above := decimal.Compare(d, e.low)
	below := decimal.Compare(e.high, d)
	if e.closed {
		return above >= 0 && below >= 0
	}
	return above > 0 && below > 0
}

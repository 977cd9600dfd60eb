// Package rounding decides to which of its two neighbours a number is rounded.
package rounding

import "figures/api"

// How what lies above the lower neighbour (in amount) compares with half of
// the way to the upper one.
const (
	Exact = 0 // nothing lies above it
	Below = 1 // less than half
	Half  = 2
	Above = 3 // more than half
)

// ToUpper tells whether an amount is rounded to its upper neighbour. odd says
// that the lower neighbour is odd.
func ToUpper(mode int, negative bool, odd bool, rest int) bool {
	if rest == Exact {
		return false
	}
	switch mode {
	case api.Even:
		return rest == Above || (rest == Half && odd)
	case api.Away:
		return rest == Above || rest == Half
	case api.Up:
		return !negative
	case api.Down:
		return negative
	}
	return false
}

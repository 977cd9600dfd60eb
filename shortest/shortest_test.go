package shortest

import (
	"testing"

	"figures/pattern"
)

func TestWithin(t *testing.T) {
	for _, k := range []struct {
		span   pattern.Span
		digits string
		power  int
	}{
		// Whole numbers: 98 to 106 around 102.
		{pattern.Span{Low: 98, Number: 102, High: 106, Closed: true}, "1", 2},
		{pattern.Span{Low: 101, Number: 103, High: 109, Closed: true}, "103", 0},
		{pattern.Span{Low: 101, Number: 103, High: 110, Closed: true}, "11", 1},
		{pattern.Span{Low: 101, Number: 103, High: 110, Closed: false}, "103", 0},
		{pattern.Span{Low: 100, Number: 103, High: 109, Closed: true}, "1", 2},
		{pattern.Span{Low: 100, Number: 103, High: 109, Closed: false}, "103", 0},
		// Both neighbours are within: the nearer, of two as near the even one.
		{pattern.Span{Low: 299, Number: 349, High: 401}, "3", 2},
		{pattern.Span{Low: 299, Number: 351, High: 401}, "4", 2},
		{pattern.Span{Low: 299, Number: 350, High: 401}, "4", 2},
		{pattern.Span{Low: 199, Number: 250, High: 301}, "2", 2},
		// The nearer one is beyond an end, or at an end that does not belong to it.
		{pattern.Span{Low: 300, Number: 349, High: 401}, "4", 2},
		{pattern.Span{Low: 301, Number: 340, High: 401}, "4", 2},
		{pattern.Span{Low: 201, Number: 250, High: 301}, "3", 2},
		{pattern.Span{Low: 299, Number: 360, High: 399}, "3", 2},
		// One digit less with the next power of ten, or one more ahead of it.
		{pattern.Span{Low: 85, Number: 97, High: 103}, "1", 2},
		{pattern.Span{Low: 85, Number: 94, High: 103}, "9", 1},
		{pattern.Span{Low: 950, Number: 996, High: 999}, "99", 1},
		{pattern.Span{Low: 994, Number: 996, High: 998}, "996", 0},
		{pattern.Span{Low: 994, Number: 996, High: 1000, Closed: true}, "1", 3},
		// No decimal with fewer digits is within.
		{pattern.Span{Low: 7, Number: 8, High: 9}, "8", 0},
		{pattern.Span{Low: 119, Number: 120, High: 121}, "12", 1},
		{pattern.Span{Low: 3, Number: 5, High: 6, Power: -3}, "6", -1},
		{pattern.Span{Low: 2, Number: 4, High: 6, Power: -1076}, "5", -324},
		{pattern.Span{Low: 1, Number: 3, High: 4, Power: 3}, "2", 1},
	} {
		found := Within(k.span)
		got := ""
		for _, digit := range found.Digits() {
			got += string(rune('0' + digit))
		}
		if got != k.digits || found.LastPower() != k.power {
			t.Errorf("Within(%v) = %se%d, want %se%d", k.span, got, found.LastPower(), k.digits, k.power)
		}
	}
}

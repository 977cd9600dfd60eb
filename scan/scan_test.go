package scan

import (
	"slices"
	"strings"
	"testing"
)

func TestReadNumbers(t *testing.T) {
	for _, k := range []struct {
		text string
		want Number
	}{
		{"0", Number{Decimal, false, nil, 0}},
		{"-0.00e7", Number{Decimal, true, nil, 5}},
		{"120", Number{Decimal, false, []int{1, 2, 0}, 0}},
		{"+0012.340", Number{Decimal, false, []int{1, 2, 3, 4, 0}, -3}},
		{"-.05e-6", Number{Decimal, true, []int{5}, -8}},
		{"9.e+10", Number{Decimal, false, []int{9}, 10}},
		{"0x0a.0fp3", Number{Hex, false, []int{10, 0, 15}, -5}},
		{"-0x9.p-1", Number{Hex, true, []int{9}, -1}},
		{"0x0p0", Number{Hex, false, nil, 0}},
		{"inf", Number{Infinity, false, nil, 0}},
		{"-infinity", Number{Infinity, true, nil, 0}},
		{"nan", Number{NaN, false, nil, 0}},
	} {
		got, at, ok := Read(k.text)
		if !ok || at != 0 || got.Kind != k.want.Kind || got.Negative != k.want.Negative || !slices.Equal(got.Digits, k.want.Digits) || got.Power != k.want.Power {
			t.Errorf("Read(%q) = %v, %d, %v, want %v", k.text, got, at, ok, k.want)
		}
	}
}

// A power that no int holds stays far, with its sign.
func TestReadFarPowers(t *testing.T) {
	for _, power := range []string{"1000000", "9999999", "9223372036854775808", "18446744073709551616", strings.Repeat("9", 890)} {
		for _, start := range []string{"1e", "0x1p"} {
			number, _, ok := Read(start + power)
			if !ok || number.Power < farPower {
				t.Errorf("Read(%.30q) has the power %d, %v", start+power, number.Power, ok)
			}
			number, _, ok = Read(start + "-" + power)
			if !ok || number.Power > -farPower {
				t.Errorf("Read(%.30q) has the power %d, %v", start+"-"+power, number.Power, ok)
			}
		}
	}
}

func TestReadFaults(t *testing.T) {
	for _, k := range []struct {
		text string
		at   int
	}{{"", 0}, {"-", 1}, {".", 1}, {"1e", 2}, {"1e+", 3}, {"1e5x", 3}, {"0x", 2}, {"0x.8p1", 2}, {"0x1", 3}, {"0x1.", 4}, {"0x1p", 4}, {"0x1p-", 5}, {"infi", 4}, {"infix", 4}, {"infx", 3}, {"nam", 2}, {"nanx", 3}, {"x", 0}, {"\x00", 0}, {"1\x00", 1}} {
		number, at, ok := Read(k.text)
		if ok || at != k.at || number.Kind != 0 || number.Negative || number.Digits != nil || number.Power != 0 {
			t.Errorf("Read(%q) = %v, %d, %v, want place %d", k.text, number, at, ok, k.at)
		}
	}
}

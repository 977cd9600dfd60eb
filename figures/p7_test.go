package figures_test

import (
	"math/big"
	"strings"
	"testing"

	"figures/api"
	"figures/figures"
)

// checkBeyond: a text whose number is T or more.
func checkBeyond(t *testing.T, c *figures.Conv, s shape, text string) {
	t.Helper()
	inf, greatest := s.infinity(), s.infinity()-1
	format := formatOf(s)
	above := []int{inf, inf, greatest, inf, greatest}
	below := []int{inf, inf, greatest, greatest, inf}
	for _, mode := range modes {
		wants(t, c, "P7", text, format, mode, above[mode], api.Overflow+api.Inexact)
		wants(t, c, "P7", "-"+text, format, mode, s.signed(below[mode], true), api.Overflow+api.Inexact)
	}
}

func TestP7Beyond(t *testing.T) {
	c := figures.New()
	for _, s := range shapes {
		top := s.number(s.infinity())
		twice := new(big.Rat).Mul(top, big.NewRat(2, 1))
		texts := []string{decimal(top, 0), decimal(top, 1), decimal(twice, 0), decimal(twice, -1), "0x1p" + itoa(s.bias()+1), "0x1.000000000000000000001p" + itoa(s.bias()+1), "1e309", "1e400", "1e401", "1e402", "1e4000", "0x1p5000", "9" + strings.Repeat("0", 400), strings.Repeat("9", 899)}
		for _, text := range texts {
			checkBeyond(t, c, s, text)
		}
	}
}

// Between the greatest finite number and T: the flag hangs on what the mode comes to.
func TestP7BelowT(t *testing.T) {
	c := figures.New()
	for _, k := range []struct {
		text              string
		mode, bits, flags int
	}{
		{"65504.1", 0, 0x7bff, 1}, {"65504.1", 1, 0x7bff, 1}, {"65504.1", 2, 0x7bff, 1}, {"65504.1", 3, 0x7c00, 3}, {"65504.1", 4, 0x7bff, 1},
		{"-65504.1", 3, 0xfbff, 1}, {"-65504.1", 4, 0xfc00, 3},
		{"65519.999", 0, 0x7bff, 1}, {"65519.999", 1, 0x7bff, 1}, {"65520", 0, 0x7c00, 3}, {"65520", 1, 0x7c00, 3}, {"65520", 2, 0x7bff, 1}, {"65520", 3, 0x7c00, 3}, {"65520", 4, 0x7bff, 1},
		{"-65520", 0, 0xfc00, 3}, {"-65520", 2, 0xfbff, 1}, {"-65520", 3, 0xfbff, 1}, {"-65520", 4, 0xfc00, 3},
		{"65535.999", 0, 0x7c00, 3}, {"65535.999", 2, 0x7bff, 1}, {"65535.999", 4, 0x7bff, 1}, {"-65535.999", 3, 0xfbff, 1},
		{"65504", 3, 0x7bff, 0}, {"-65504", 4, 0xfbff, 0},
	} {
		wants(t, c, "P7", k.text, api.Half, k.mode, k.bits, k.flags)
	}
}

// checkTiny: a text whose number is above 0 and less than half of the least one.
func checkTiny(t *testing.T, c *figures.Conv, s shape, text string) {
	t.Helper()
	above := []int{0, 0, 0, 1, 0}
	below := []int{0, 0, 0, 0, 1}
	for _, mode := range modes {
		wants(t, c, "P7", text, formatOf(s), mode, above[mode], api.Underflow+api.Inexact)
		wants(t, c, "P7", "-"+text, formatOf(s), mode, s.signed(below[mode], true), api.Underflow+api.Inexact)
	}
}

func TestP7Tiny(t *testing.T) {
	c := figures.New()
	for _, s := range shapes {
		half := new(big.Rat).Quo(s.number(1), big.NewRat(2, 1))
		quarter := new(big.Rat).Quo(s.number(1), big.NewRat(4, 1))
		texts := []string{decimal(half, -1), decimal(quarter, 0), decimal(quarter, 1), decimal(quarter, -1), "1e-324", "1e-399", "1e-400", "1e-401", "9.9e-402", "1e-4000", "0x1p-1076", "0x1p-5000", "0x1.fffp-1077", "0." + strings.Repeat("0", 896) + "1"}
		for _, text := range texts {
			checkTiny(t, c, s, text)
		}
	}
}

// Powers of any size, such as no int holds among them.
func TestP7Powers(t *testing.T) {
	c := figures.New()
	powers := []string{"99999", "100000", "999999", "1000000", "2147483648", "4294967296", "4294967297", "9223372036854775807", "9223372036854775808", "18446744073709551615", "18446744073709551616", "18446744073709551617", "36893488147419103233", "99999999999999999999", "1" + strings.Repeat("0", 890), strings.Repeat("9", 890), strings.Repeat("0", 400) + "5000"}
	for _, s := range shapes {
		for _, power := range powers {
			for _, start := range []string{"1e", "0x1p", "0.5e", ".1e", "0x0.8p", "9e"} {
				checkBeyond(t, c, s, start+power)
				checkBeyond(t, c, s, start+"+"+power)
				checkTiny(t, c, s, start+"-"+power)
			}
		}
		checkBeyond(t, c, s, "0."+strings.Repeat("0", 800)+"1e99999999999999999999")
		checkTiny(t, c, s, strings.Repeat("9", 800)+"e-99999999999999999999")
		checkBeyond(t, c, s, "0x0."+strings.Repeat("0", 800)+"1p99999999999999999999")
		checkTiny(t, c, s, "0x"+strings.Repeat("f", 800)+"p-99999999999999999999")
	}
}

// Underflow hangs on the number that the text says, not on what it is rounded to.
func TestP7Underflow(t *testing.T) {
	c := figures.New()
	for _, s := range shapes {
		normal := s.number(s.leastNormal())
		format := formatOf(s)
		wants(t, c, "P7", decimal(normal, 0), format, api.Even, s.leastNormal(), 0)
		wants(t, c, "P7", decimal(normal, -1), format, api.Even, s.leastNormal(), 5)
		wants(t, c, "P7", decimal(normal, -1), format, api.Up, s.leastNormal(), 5)
		wants(t, c, "P7", decimal(normal, -1), format, api.Cut, s.leastNormal()-1, 5)
		wants(t, c, "P7", "-"+decimal(normal, -1), format, api.Down, s.signed(s.leastNormal(), true), 5)
		wants(t, c, "P7", decimal(normal, 1), format, api.Even, s.leastNormal(), 1)
		wants(t, c, "P7", decimal(normal, 1), format, api.Up, s.leastNormal()+1, 1)
		wants(t, c, "P7", decimal(normal, 1), format, api.Cut, s.leastNormal(), 1)
		wants(t, c, "P7", decimal(s.number(s.leastNormal()-1), 0), format, api.Even, s.leastNormal()-1, 0)
		wants(t, c, "P7", decimal(s.number(1), 0), format, api.Up, 1, 0)
		wants(t, c, "P7", decimal(s.number(1), 1), format, api.Even, 1, 5)
		wants(t, c, "P7", decimal(s.number(1), -1), format, api.Cut, 0, 5)
	}
}

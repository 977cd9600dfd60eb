package figures_test

import (
	"math"
	"math/big"
	"strconv"
	"testing"

	"figures/api"
	"figures/figures"
)

func itoa(n int) string { return strconv.Itoa(n) }

// lowers are amounts with whose upper neighbours the edges are: all kinds of
// next powers of two, the least numbers, the least normal one, T.
func (s shape) lowers() []int {
	amounts := []int{0, 1, 2, 3, 4, 5}
	for x := 1; x < 1<<s.e; x++ {
		if x < 4 || x > 1<<s.e-4 || x%(1<<s.e/16) == 0 || x == s.bias() || x == s.bias()+1 {
			power := x << s.f
			amounts = append(amounts, power-3, power-2, power-1, power, power+1, power+2)
		}
	}
	chance := &source{uint64(s.w)}
	for i := 0; i < 60; i++ {
		amounts = append(amounts, chance.below(1<<s.e)<<s.f+chance.below(1<<20)*chance.below(1<<20)%(1<<s.f))
	}
	inside := amounts[:0]
	for _, a := range amounts {
		if a < s.infinity() {
			inside = append(inside, a)
		}
	}
	return inside
}

func TestP6Exact(t *testing.T) {
	c := figures.New()
	for _, s := range shapes {
		lowers := s.lowers()
		if s.name == "Half" {
			lowers = nil
			for a := 1; a < s.infinity(); a++ {
				lowers = append(lowers, a)
			}
		}
		for i, a := range lowers {
			text := decimal(s.number(a), 0)
			hex := "0x" + strconv.FormatInt(s.number(a).Num().Int64(), 16) + "p-" + itoa(s.number(a).Denom().BitLen()-1)
			for _, negative := range []bool{false, true} {
				mode := modes[i%5]
				wants(t, c, "P6", minus(text, negative), formatOf(s), mode, s.signed(a, negative), 0)
				if s.number(a).Num().IsInt64() {
					wants(t, c, "P6", minus(hex, negative), formatOf(s), mode, s.signed(a, negative), 0)
				}
			}
		}
	}
}

// Between two neighbours: just at half of the way, a little less and a little
// more, and right behind the lower and ahead of the upper one; by each mode
// and with both signs. P7's T and its flags are met at the ends.
func TestP6Neighbours(t *testing.T) {
	c := figures.New()
	for _, s := range shapes {
		for _, a := range s.lowers() {
			low, high := s.number(a), s.number(a+1)
			half := new(big.Rat).Add(low, high)
			half.Quo(half, big.NewRat(2, 1))
			texts := []string{decimal(half, 0), decimal(half, -1), decimal(half, 1), decimal(low, 1), decimal(high, -1)}
			sides := []int{0, -1, 1, -1, 1}
			for i, text := range texts {
				checkBetween(t, c, s, a, text, sides[i])
			}
		}
	}
}

func checkBetween(t *testing.T, c *figures.Conv, s shape, a int, text string, side int) {
	t.Helper()
	if len(text) > api.MaxText-1 {
		t.Fatalf("a text of %d bytes", len(text))
	}
	for _, mode := range modes {
		for _, negative := range []bool{false, true} {
			amount := chosen(a, side, negative, mode)
			wants(t, c, "P6", minus(text, negative), formatOf(s), mode, s.signed(amount, negative), s.flags(a, amount))
		}
	}
}

// Halfway written in base 16: between 1 and the next number, and ahead of 2.
func TestP6HexTies(t *testing.T) {
	c := figures.New()
	for _, k := range []struct {
		text  string
		lower int
		side  int
	}{
		{"0x1.002p0", 0x3c00, 0}, {"0x1.0020001p0", 0x3c00, 1}, {"0x1.001ffffp0", 0x3c00, -1}, {"0x1.006p0", 0x3c01, 0},
		{"0x1.ffep0", 0x3fff, 0}, {"0x1.ffdffffp0", 0x3fff, -1}, {"0x1.ffe00001p0", 0x3fff, 1},
		{"0x1p-25", 0, 0}, {"0x1.8p-24", 1, 0}, {"0x1.ffcp-15", 0x3ff, 0}, {"0x1.ffep-15", 0x3ff, 1}, {"0x1.001p-14", 0x400, -1}, {"0xffffp-1000000", 0, -1},
	} {
		checkBetween(t, c, shapes[api.Half], k.lower, k.text, k.side)
	}
}

// By mode 0, Single and Double read as Go's own floats do.
func TestP6AgainstFloats(t *testing.T) {
	c := figures.New()
	chance := &source{2}
	for i := 0; i < 30000; i++ {
		text := chance.number(shapes[api.Double])
		if f, _ := strconv.ParseFloat(text, 64); true {
			bits, _, _, _ := c.Parse(text, api.Double, api.Even)
			if bits != int(math.Float64bits(f)) {
				t.Errorf("P6: Parse(%q, Double) = %x, want %x", text, bits, math.Float64bits(f))
			}
		}
		text = chance.number(shapes[api.Single])
		if f, _ := strconv.ParseFloat(text, 32); true {
			bits, _, _, _ := c.Parse(text, api.Single, api.Even)
			if bits != int(math.Float32bits(float32(f))) {
				t.Errorf("P6: Parse(%q, Single) = %x, want %x", text, bits, math.Float32bits(float32(f)))
			}
		}
	}
}

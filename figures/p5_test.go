package figures_test

import (
	"math/big"
	"strings"
	"testing"

	"figures/api"
	"figures/figures"
)

func TestP5Words(t *testing.T) {
	c := figures.New()
	nan := []int{0x7e00, 0x7fc00000, 0x7ff8000000000000}
	inf := []int{0x7c00, 0x7f800000, 0x7ff0000000000000}
	minusInf := []int{0xfc00, 0xff800000, -0x10000000000000}
	for format := range shapes {
		for _, mode := range modes {
			for _, text := range []string{"nan", "+nan", "-nan"} {
				wants(t, c, "P5", text, format, mode, nan[format], 0)
			}
			for _, text := range []string{"inf", "+inf", "infinity", "+infinity"} {
				wants(t, c, "P5", text, format, mode, inf[format], 0)
			}
			for _, text := range []string{"-inf", "-infinity"} {
				wants(t, c, "P5", text, format, mode, minusInf[format], 0)
			}
		}
	}
}

func TestP5Zero(t *testing.T) {
	c := figures.New()
	minusZero := []int{0x8000, 0x80000000, -1 << 63}
	far := strings.Repeat("9", 500)
	texts := []string{"0", "00", "0.", ".0", "0.0", "0e0", "0e5", "0e-5", "0e" + far, "0.000e-" + far, "0x0p0", "0x0.p1", "0x00.00p-7", "0x0p" + far, "0x0.0p-" + far, strings.Repeat("0", 899), "." + strings.Repeat("0", 898)}
	for format := range shapes {
		for _, mode := range modes {
			for _, text := range texts {
				wants(t, c, "P5", text, format, mode, 0, 0)
				wants(t, c, "P5", "-"+text, format, mode, minusZero[format], 0)
			}
			wants(t, c, "P5", "+0", format, mode, 0, 0)
		}
	}
}

// What stands far behind in a text still counts.
func TestP5LongTexts(t *testing.T) {
	c := figures.New()
	tie := "9007199254740993." + strings.Repeat("0", 882)
	wants(t, c, "P5", tie+"0", api.Double, api.Even, 0x4340000000000000, 1)
	wants(t, c, "P5", tie+"1", api.Double, api.Even, 0x4340000000000001, 1)
	wants(t, c, "P5", "1."+strings.Repeat("0", 897)+"1", api.Half, api.Up, 0x3c01, 1)
	wants(t, c, "P5", "1."+strings.Repeat("0", 897)+"0", api.Half, api.Up, 0x3c00, 0)
	wants(t, c, "P5", "0."+strings.Repeat("9", 898), api.Double, api.Cut, 0x3fefffffffffffff, 1)
	wants(t, c, "P5", "0."+strings.Repeat("9", 898), api.Double, api.Even, 0x3ff0000000000000, 1)
	wants(t, c, "P5", "0x1."+strings.Repeat("0", 893)+"1p0", api.Single, api.Up, 0x3f800001, 1)
	wants(t, c, "P5", "0x1."+strings.Repeat("0", 893)+"0p0", api.Single, api.Up, 0x3f800000, 0)
	wants(t, c, "P5", "0x1.001"+strings.Repeat("0", 890)+"p0", api.Half, api.Even, 0x3c00, 1)
	wants(t, c, "P5", "0x1.002"+strings.Repeat("0", 889)+"1p0", api.Half, api.Even, 0x3c01, 1)
	wants(t, c, "P5", "0x1.002"+strings.Repeat("0", 890)+"p0", api.Half, api.Even, 0x3c00, 1)
}

// Digits and the power may be far from 1 while the number is near to it.
func TestP5PowerAgainstDigits(t *testing.T) {
	c := figures.New()
	for _, k := range []struct {
		text string
		bits int
	}{
		{"1" + strings.Repeat("0", 893) + "e-893", 0x3c00},
		{"12" + strings.Repeat("0", 892) + "e-892", 0x4a00},
		{"0." + strings.Repeat("0", 890) + "1e891", 0x3c00},
		{"." + strings.Repeat("0", 890) + "12e892", 0x4a00},
		{strings.Repeat("0", 500) + "." + strings.Repeat("0", 300) + "12e302", 0x4a00},
		{"0xc" + strings.Repeat("0", 880) + "p-3520", 0x4a00},
		{"0x0." + strings.Repeat("0", 880) + "cp3524", 0x4a00},
		{"0x" + strings.Repeat("0", 600) + "1." + strings.Repeat("0", 200) + "p0", 0x3c00},
	} {
		wants(t, c, "P5", k.text, api.Half, api.Even, k.bits, 0)
		wants(t, c, "P5", "-"+k.text, api.Half, api.Up, k.bits+0x8000, 0)
	}
}

// Texts of many kinds, by all formats, modes and signs, against exact fractions.
func TestP5ToP7AgainstFractions(t *testing.T) {
	c := figures.New()
	chance := &source{1}
	for i := 0; i < 4000; i++ {
		s := shapes[i%3]
		text := chance.number(s)
		r, ok := new(big.Rat).SetString(text)
		if !ok {
			t.Fatalf("no fraction: %q", text)
		}
		if r.Sign() == 0 {
			continue
		}
		for _, mode := range modes {
			for _, negative := range []bool{false, true} {
				bits, flags := s.read(r, negative, mode)
				wants(t, c, "P5 to P7", minus(text, negative), formatOf(s), mode, bits, flags)
			}
		}
	}
}

// number is a text whose number is mostly where the format has numbers.
func (s *source) number(f shape) string {
	twos := s.below(2*f.bias()+2*f.f+20) - f.bias() - 2*f.f
	if s.below(3) == 0 {
		return "0x" + s.digits(1+s.below(20), "0123456789abcdef") + "." + s.digits(s.below(20), "0f8") + "p" + itoa(twos-40)
	}
	whole := s.digits(1+s.below(25), "0123456789")
	behind := s.digits(s.below(1+s.below(300)), "0123456789")
	return whole + "." + behind + "e" + itoa(twos*301/1000-len(whole))
}

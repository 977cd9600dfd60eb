package figures_test

import (
	"math"
	"testing"

	"figures/api"
	"figures/figures"
)

// declines asks Format for what it answers with ErrArg.
func declines(t *testing.T, c *figures.Conv, bits, format, verb, prec, mode int) {
	t.Helper()
	text, e := c.Format(bits, format, verb, prec, mode)
	if text != "" || e != api.ErrArg {
		t.Errorf("P8: Format(%#x, %d, %d, %d, %d) = %q, %d, want ErrArg", bits, format, verb, prec, mode, text, e)
	}
}

// rightPrec is a precision that goes with the verb.
func rightPrec(verb int) int {
	if verb == api.Exp || verb == api.Fix {
		return 3
	}
	return -1
}

var verbs = []int{api.Short, api.Plain, api.Exp, api.Fix, api.Hex}

func TestP8NoSuchFormatOrVerb(t *testing.T) {
	c := figures.New()
	for _, bad := range []int{math.MinInt, math.MinInt + 1, -1 << 32, -256, -2, -1, 5, 6, 256, 1 << 32, 1<<32 + 2, math.MaxInt} {
		for _, verb := range verbs {
			for _, bits := range []int{0, 1, 0x3c00, 0x7c00, 0x7e00, -1} {
				declines(t, c, bits, bad, verb, rightPrec(verb), 0)
			}
		}
		for format := range shapes {
			for _, prec := range []int{-1, 0, 3, 800} {
				declines(t, c, 0x3c00, format, bad, prec, 0)
				declines(t, c, 0x7c00, format, bad, prec, 0)
			}
		}
	}
	for _, verb := range verbs {
		declines(t, c, 0, 3, verb, rightPrec(verb), 0)
		declines(t, c, 0, 4, verb, rightPrec(verb), 0)
	}
}

func TestP8NoPattern(t *testing.T) {
	c := figures.New()
	for _, verb := range verbs {
		prec := rightPrec(verb)
		for _, bits := range []int{math.MinInt, math.MinInt + 1, -1 << 32, -1 << 31, -1 << 16, -1 << 15, -2, -1, 1 << 32, 1<<32 + 1, 1 << 40, 1 << 62, math.MaxInt} {
			declines(t, c, bits, api.Half, verb, prec, 0)
			declines(t, c, bits, api.Single, verb, prec, 0)
		}
		for _, bits := range []int{1 << 16, 1<<16 + 1, 1 << 17, 0x13c00, 1 << 31, 1<<32 - 1} {
			declines(t, c, bits, api.Half, verb, prec, 0)
		}
	}
	// The last patterns that are some.
	writes(t, c, "P8", 1<<16-1, api.Half, api.Hex, -1, 0, "nan")
	writes(t, c, "P8", 1<<32-1, api.Single, api.Hex, -1, 0, "nan")
	writes(t, c, "P8", 1<<16-1, api.Half, api.Short, -1, 0, "nan")
	writes(t, c, "P8", 1<<32-1, api.Single, api.Plain, -1, 0, "nan")
	writes(t, c, "P8", 1<<16, api.Single, api.Hex, -1, 0, "0x1p-133")
	writes(t, c, "P8", 1<<16, api.Single, api.Short, -1, 0, "9.1835e-41")
	writes(t, c, "P8", math.MaxInt, api.Double, api.Fix, 0, 4, "nan")
	writes(t, c, "P8", math.MinInt, api.Double, api.Hex, -1, 0, "-0x0p0")
	writes(t, c, "P8", math.MinInt+1, api.Double, api.Hex, -1, 0, "-0x1p-1074")
	writes(t, c, "P8", math.MinInt, api.Double, api.Plain, -1, 0, "-0")
	writes(t, c, "P8", math.MinInt+1, api.Double, api.Short, -1, 0, "-5e-324")
	writes(t, c, "P8", -1, api.Double, api.Exp, 0, 0, "nan")
}

// Also of nan, infinity and 0, whose texts hang on no precision or mode.
func TestP8PrecAndMode(t *testing.T) {
	c := figures.New()
	for _, bits := range []int{0, 1, 0x3c00, 0x7bff, 0x7c00, 0x7e00} {
		for format := range shapes {
			for _, verb := range []int{api.Short, api.Plain, api.Hex} {
				for _, prec := range []int{math.MinInt, -3, -2, 0, 1, 3, 800, 801, math.MaxInt} {
					declines(t, c, bits, format, verb, prec, 0)
				}
				for _, mode := range []int{math.MinInt, -1, 1, 2, 3, 4, 5, math.MaxInt} {
					declines(t, c, bits, format, verb, -1, mode)
				}
			}
			for _, verb := range []int{api.Exp, api.Fix} {
				for _, prec := range []int{math.MinInt, -801, -2, -1, 801, 802, 900, 1 << 32, math.MaxInt} {
					declines(t, c, bits, format, verb, prec, 0)
				}
				for _, mode := range []int{math.MinInt, -2, -1, 5, 6, 256, 1 << 32, math.MaxInt} {
					for _, prec := range []int{0, 3, 800} {
						declines(t, c, bits, format, verb, prec, mode)
					}
				}
			}
		}
	}
}

// checkWord asks for a pattern whose text hangs on nothing else.
func checkWord(t *testing.T, c *figures.Conv, bits, format int, want string) {
	t.Helper()
	for _, verb := range []int{api.Short, api.Plain, api.Hex} {
		writes(t, c, "P8", bits, format, verb, -1, 0, want)
	}
	for _, mode := range modes {
		for _, prec := range []int{0, 1, 7, 800} {
			writes(t, c, "P8", bits, format, api.Exp, prec, mode, want)
			writes(t, c, "P8", bits, format, api.Fix, prec, mode, want)
		}
	}
}

func TestP8NaN(t *testing.T) {
	c := figures.New()
	for _, s := range shapes {
		top := 1<<s.f - 1
		for _, lower := range []int{1, 2, 3, top/2 + 1, top / 2, top/2 + 2, top - 1, top} {
			for _, negative := range []bool{false, true} {
				checkWord(t, c, s.signed(s.infinity()+lower, negative), formatOf(s), "nan")
			}
		}
	}
	for lower := 1; lower < 1<<10; lower++ {
		writes(t, c, "P8", 0x7c00+lower, api.Half, api.Hex, -1, 0, "nan")
		writes(t, c, "P8", 0x7c00+lower, api.Half, api.Short, -1, 0, "nan")
		writes(t, c, "P8", 0xfc00+lower, api.Half, api.Plain, -1, 0, "nan")
		writes(t, c, "P8", 0xfc00+lower, api.Half, api.Exp, 3, 0, "nan")
		writes(t, c, "P8", 0xfc00+lower, api.Half, api.Fix, 3, 4, "nan")
	}
}

func TestP8Infinity(t *testing.T) {
	c := figures.New()
	for _, s := range shapes {
		checkWord(t, c, s.infinity(), formatOf(s), "inf")
		checkWord(t, c, s.signed(s.infinity(), true), formatOf(s), "-inf")
	}
}

func TestP8Sign(t *testing.T) {
	c := figures.New()
	for _, s := range shapes {
		one := s.bias() << s.f
		for _, mode := range modes {
			for _, k := range []struct {
				amount, verb, prec int
				text               string
			}{
				{0, api.Exp, 0, "0e0"}, {0, api.Exp, 2, "0.00e0"}, {0, api.Fix, 0, "0"}, {0, api.Fix, 2, "0.00"},
				{one, api.Exp, 0, "1e0"}, {one, api.Exp, 2, "1.00e0"}, {one, api.Fix, 0, "1"}, {one, api.Fix, 2, "1.00"},
			} {
				writes(t, c, "P8", k.amount, formatOf(s), k.verb, k.prec, mode, k.text)
				writes(t, c, "P8", s.signed(k.amount, true), formatOf(s), k.verb, k.prec, mode, "-"+k.text)
			}
		}
		for _, k := range []struct {
			amount, verb int
			text         string
		}{
			{0, api.Short, "0"}, {0, api.Plain, "0"}, {0, api.Hex, "0x0p0"}, {one, api.Short, "1e0"}, {one, api.Plain, "1"}, {one, api.Hex, "0x1p0"},
		} {
			writes(t, c, "P8", k.amount, formatOf(s), k.verb, -1, 0, k.text)
			writes(t, c, "P8", s.signed(k.amount, true), formatOf(s), k.verb, -1, 0, "-"+k.text)
		}
	}
}

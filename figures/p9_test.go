package figures_test

import (
	"testing"

	"figures/api"
	"figures/figures"
)

func TestP9Texts(t *testing.T) {
	c := figures.New()
	for _, k := range []struct {
		bits, format int
		want         string
	}{
		{0, api.Half, "0x0p0"}, {0x8000, api.Half, "-0x0p0"}, {0, api.Single, "0x0p0"}, {0x80000000, api.Single, "-0x0p0"}, {0, api.Double, "0x0p0"}, {-1 << 63, api.Double, "-0x0p0"},
		{0x3c00, api.Half, "0x1p0"}, {0x4000, api.Half, "0x1p1"}, {0x3800, api.Half, "0x1p-1"}, {0xbc00, api.Half, "-0x1p0"}, {0x6400, api.Half, "0x1p10"}, {0x7800, api.Half, "0x1p15"},
		{0x3e00, api.Half, "0x1.8p0"}, {0x3c01, api.Half, "0x1.004p0"}, {0x3c04, api.Half, "0x1.01p0"}, {0x3fff, api.Half, "0x1.ffcp0"}, {0x3555, api.Half, "0x1.554p-2"}, {0x4900, api.Half, "0x1.4p3"}, {0x3c40, api.Half, "0x1.1p0"},
		{0x7bff, api.Half, "0x1.ffcp15"}, {0xfbff, api.Half, "-0x1.ffcp15"}, {0x0400, api.Half, "0x1p-14"}, {0x0401, api.Half, "0x1.004p-14"}, {0x03ff, api.Half, "0x1.ff8p-15"}, {0x0200, api.Half, "0x1p-15"}, {0x0201, api.Half, "0x1.008p-15"}, {1, api.Half, "0x1p-24"}, {2, api.Half, "0x1p-23"}, {3, api.Half, "0x1.8p-23"}, {5, api.Half, "0x1.4p-22"}, {0x8001, api.Half, "-0x1p-24"}, {17, api.Half, "0x1.1p-20"},
		{0x3f800000, api.Single, "0x1p0"}, {0x3f800001, api.Single, "0x1.000002p0"}, {0x3dcccccd, api.Single, "0x1.99999ap-4"}, {0x7f7fffff, api.Single, "0x1.fffffep127"}, {0xff7fffff, api.Single, "-0x1.fffffep127"}, {0x00800000, api.Single, "0x1p-126"}, {0x007fffff, api.Single, "0x1.fffffcp-127"}, {0x00400000, api.Single, "0x1p-127"}, {1, api.Single, "0x1p-149"}, {0x4b800001, api.Single, "0x1.000002p24"}, {0xc0490fdb, api.Single, "-0x1.921fb6p1"},
		{0x3ff0000000000000, api.Double, "0x1p0"}, {0x3ff0000000000001, api.Double, "0x1.0000000000001p0"}, {0x3ff0000000000010, api.Double, "0x1.000000000001p0"}, {0x3fb999999999999a, api.Double, "0x1.999999999999ap-4"}, {0x4059000000000000, api.Double, "0x1.9p6"}, {0x400abcdef0123456, api.Double, "0x1.abcdef0123456p1"}, {0x7fefffffffffffff, api.Double, "0x1.fffffffffffffp1023"}, {-0x10000000000001, api.Double, "-0x1.fffffffffffffp1023"}, {0x0010000000000000, api.Double, "0x1p-1022"}, {0x000fffffffffffff, api.Double, "0x1.ffffffffffffep-1023"}, {0x0008000000000000, api.Double, "0x1p-1023"}, {1, api.Double, "0x1p-1074"}, {3, api.Double, "0x1.8p-1073"}, {-1<<63 + 1, api.Double, "-0x1p-1074"},
	} {
		writes(t, c, "P9", k.bits, k.format, api.Hex, -1, 0, k.want)
	}
}

// Every number of Half, edges and others of all formats.
func TestP9AgainstFractions(t *testing.T) {
	c := figures.New()
	for _, s := range shapes {
		amounts := s.lowers()
		for i := 0; s.name == "Half" && i < s.infinity(); i++ {
			amounts = append(amounts, i)
		}
		for i := 0; i < s.f; i++ {
			amounts = append(amounts, 1<<i, 1<<i+1, 1<<s.f-1<<i)
		}
		for _, a := range amounts {
			for _, negative := range []bool{false, true} {
				writes(t, c, "P9", s.signed(a, negative), formatOf(s), api.Hex, -1, 0, hexOf(s.number(a), negative))
			}
		}
	}
}

// What Hex writes Parse reads as the same pattern, exactly.
func TestP9ReadBack(t *testing.T) {
	c := figures.New()
	for _, s := range shapes {
		for _, a := range s.lowers() {
			for _, negative := range []bool{false, true} {
				bits := s.signed(a, negative)
				text, _ := c.Format(bits, formatOf(s), api.Hex, -1, 0)
				wants(t, c, "P9", text, formatOf(s), api.Even, bits, 0)
			}
		}
	}
}

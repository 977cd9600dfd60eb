package pattern

import (
	"math"
	"testing"

	"figures/api"
)

func TestLayouts(t *testing.T) {
	for _, k := range []struct{ format, w, e, f int }{{api.Half, 16, 5, 10}, {api.Single, 32, 8, 23}, {api.Double, 64, 11, 52}} {
		l := Of(k.format)
		bias := 1<<(k.e-1) - 1
		infinity := (1<<k.e - 1) << k.f
		if l.LowerBits != k.f || l.Bias != bias || l.LeastNormal != 1<<k.f || l.Infinity != infinity || l.LeastPower() != 1-bias {
			t.Errorf("Of(%d) = %v", k.format, l)
		}
		if l.NaN() != infinity|1<<(k.f-1) {
			t.Errorf("NaN of %d = %x", k.format, l.NaN())
		}
		sign := uint64(1) << (k.w - 1)
		for _, amount := range []int{0, 1, l.LeastNormal, l.Infinity} {
			if l.Signed(amount, false) != amount || l.Signed(amount, true) != int(sign|uint64(amount)) {
				t.Errorf("Signed of %d, %x = %x, %x", k.format, amount, l.Signed(amount, false), l.Signed(amount, true))
			}
		}
	}
}

func TestHas(t *testing.T) {
	for _, k := range []struct {
		bits                 int
		half, single, double bool
	}{
		{0, true, true, true}, {1, true, true, true}, {0x7c00, true, true, true}, {0xffff, true, true, true}, {0x10000, false, true, true}, {1<<32 - 1, false, true, true}, {1 << 32, false, false, true}, {math.MaxInt, false, false, true}, {-1, false, false, true}, {-1 << 31, false, false, true}, {math.MinInt, false, false, true},
	} {
		for format, want := range []bool{k.half, k.single, k.double} {
			if got := Of(format).Has(k.bits); got != want {
				t.Errorf("Has(%x) of %d = %v", k.bits, format, got)
			}
		}
	}
}

func TestSplit(t *testing.T) {
	for format := api.Half; format <= api.Double; format++ {
		l := Of(format)
		for _, amount := range []int{0, 1, l.LeastNormal, l.Infinity, l.Infinity + l.LeastNormal - 1} {
			for _, negative := range []bool{false, true} {
				a, n := l.Split(l.Signed(amount, negative))
				if a != amount || n != negative {
					t.Errorf("Split of %d, %x, %v = %x, %v", format, amount, negative, a, n)
				}
			}
		}
	}
}

func TestNumber(t *testing.T) {
	for _, k := range []struct{ format, amount, factor, power int }{
		{api.Half, 0, 0, -24}, {api.Half, 1, 1, -24}, {api.Half, 0x3ff, 0x3ff, -24}, {api.Half, 0x400, 0x400, -24}, {api.Half, 0x7ff, 0x7ff, -24}, {api.Half, 0x800, 0x400, -23}, {api.Half, 0x3c01, 0x401, -10}, {api.Half, 0x7bff, 0x7ff, 5},
		{api.Single, 1, 1, -149}, {api.Single, 0x3f800000, 1 << 23, -23}, {api.Single, 0x7f7fffff, 1<<24 - 1, 104},
		{api.Double, 1, 1, -1074}, {api.Double, 1<<52 - 1, 1<<52 - 1, -1074}, {api.Double, 1 << 52, 1 << 52, -1074}, {api.Double, 0x3ff0000000000001, 1<<52 + 1, -52}, {api.Double, 0x7fefffffffffffff, 1<<53 - 1, 971},
	} {
		if factor, power := Of(k.format).Number(k.amount); factor != k.factor || power != k.power {
			t.Errorf("Number(%x) of %d = %x, %d", k.amount, k.format, factor, power)
		}
	}
}

func TestSpan(t *testing.T) {
	for _, k := range []struct {
		format, amount int
		want           Span
	}{
		{api.Half, 1, Span{2, 4, 6, -26, false}}, {api.Half, 2, Span{6, 8, 10, -26, true}}, {api.Half, 0x200, Span{0x7fe, 0x800, 0x802, -26, true}}, {api.Half, 0x3ff, Span{0xffa, 0xffc, 0xffe, -26, false}},
		// Below the least normal number the others stand as far off as above it.
		{api.Half, 0x400, Span{0xffe, 0x1000, 0x1002, -26, true}}, {api.Half, 0x401, Span{0x1002, 0x1004, 0x1006, -26, false}}, {api.Half, 0x7ff, Span{0x1ffa, 0x1ffc, 0x1ffe, -26, false}},
		{api.Half, 0x800, Span{0xfff, 0x1000, 0x1002, -25, true}}, {api.Half, 0x801, Span{0x1002, 0x1004, 0x1006, -25, false}}, {api.Half, 0x3c00, Span{0xfff, 0x1000, 0x1002, -12, true}}, {api.Half, 0x7bff, Span{0x1ffa, 0x1ffc, 0x1ffe, 3, false}},
		{api.Single, 1, Span{2, 4, 6, -151, false}}, {api.Single, 1 << 23, Span{1<<25 - 2, 1 << 25, 1<<25 + 2, -151, true}}, {api.Single, 2 << 23, Span{1<<25 - 1, 1 << 25, 1<<25 + 2, -150, true}}, {api.Single, 0x7f7fffff, Span{1<<26 - 6, 1<<26 - 4, 1<<26 - 2, 102, false}},
		{api.Double, 1, Span{2, 4, 6, -1076, false}}, {api.Double, 1 << 52, Span{1<<54 - 2, 1 << 54, 1<<54 + 2, -1076, true}}, {api.Double, 2 << 52, Span{1<<54 - 1, 1 << 54, 1<<54 + 2, -1075, true}}, {api.Double, 2<<52 + 1, Span{1<<54 + 2, 1<<54 + 4, 1<<54 + 6, -1075, false}}, {api.Double, 0x7fefffffffffffff, Span{1<<55 - 6, 1<<55 - 4, 1<<55 - 2, 969, false}},
	} {
		if got := Of(k.format).Span(k.amount); got != k.want {
			t.Errorf("Span(%x) of %d = %v, want %v", k.amount, k.format, got, k.want)
		}
	}
}

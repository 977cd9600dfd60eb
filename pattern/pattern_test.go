package pattern

import (
	"testing"

	"figures/api"
)

func TestLayouts(t *testing.T) {
	for _, k := range []struct{ format, w, e, f int }{{api.Half, 16, 5, 10}, {api.Single, 32, 8, 23}, {api.Double, 64, 11, 52}} {
		l := Of(k.format)
		bias := 1<<(k.e-1) - 1
		infinity := (1<<k.e - 1) << k.f
		if l.LowerBits != k.f || l.Bias != bias || l.LeastNormal != 1<<k.f || l.Infinity != infinity || l.LeastPower() != 1-bias {
			t.Errorf("Of(%d) = %v", k.format, l)
		}
		if l.NaN() != infinity|1<<(k.f-1) {
			t.Errorf("NaN of %d = %x", k.format, l.NaN())
		}
		sign := uint64(1) << (k.w - 1)
		for _, amount := range []int{0, 1, l.LeastNormal, l.Infinity} {
			if l.Signed(amount, false) != amount || l.Signed(amount, true) != int(sign|uint64(amount)) {
				t.Errorf("Signed of %d, %x = %x, %x", k.format, amount, l.Signed(amount, false), l.Signed(amount, true))
			}
		}
	}
}

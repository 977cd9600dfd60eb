package write

import "testing"

func TestExp(t *testing.T) {
	for _, k := range []struct {
		digits []int
		power  int
		want   string
	}{
		{[]int{1}, 0, "1e0"}, {[]int{0}, 0, "0e0"}, {[]int{0, 0}, 0, "0.0e0"}, {[]int{9, 8}, 10, "9.8e10"}, {[]int{1, 0, 0}, -1, "1.00e-1"}, {[]int{5}, -324, "5e-324"}, {[]int{2, 3, 4, 6, 7}, 308, "2.3467e308"},
	} {
		if got := Exp(k.digits, k.power); got != k.want {
			t.Errorf("Exp(%v, %d) = %q", k.digits, k.power, got)
		}
	}
}

func TestFix(t *testing.T) {
	for _, k := range []struct {
		digits []int
		behind int
		want   string
	}{
		{nil, 0, "0"}, {nil, 1, "0.0"}, {nil, 3, "0.000"}, {[]int{1}, 0, "1"}, {[]int{1}, 1, "0.1"}, {[]int{1}, 2, "0.01"}, {[]int{1}, 5, "0.00001"}, {[]int{1, 2}, 1, "1.2"}, {[]int{1, 2}, 2, "0.12"}, {[]int{1, 0}, 3, "0.010"}, {[]int{1, 0, 0}, 0, "100"}, {[]int{9, 8, 7, 0}, 2, "98.70"}, {[]int{1}, -1, "10"}, {[]int{1, 2}, -3, "12000"}, {[]int{5}, -23, "500000000000000000000000"},
	} {
		if got := Fix(k.digits, k.behind); got != k.want {
			t.Errorf("Fix(%v, %d) = %q", k.digits, k.behind, got)
		}
	}
}

func TestHex(t *testing.T) {
	for _, k := range []struct {
		factor, power int
		want          string
	}{
		{0, -24, "0x0p0"}, {1, 0, "0x1p0"}, {1, -1074, "0x1p-1074"}, {2, -1, "0x1p0"}, {3, 0, "0x1.8p1"}, {1024, -10, "0x1p0"}, {17, 0, "0x1.1p4"}, {33, 0, "0x1.08p5"}, {31, 0, "0x1.fp4"}, {63, 0, "0x1.f8p5"}, {1<<52 + 0xabcdef, 7, "0x1.0000000abcdefp59"}, {1<<53 - 1, 971, "0x1.fffffffffffffp1023"}, {1<<59 - 1, 0, "0x1.ffffffffffffffcp58"},
	} {
		if got := Hex(k.factor, k.power); got != k.want {
			t.Errorf("Hex(%x, %d) = %q", k.factor, k.power, got)
		}
	}
}

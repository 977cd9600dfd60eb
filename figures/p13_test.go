package figures_test

import (
	"math"
	"strconv"
	"strings"
	"testing"

	"figures/api"
	"figures/figures"
)

// plain is the decimal as P13 lays it out.
func (d few) plain() string {
	digits := itoa(d.many)
	if d.power >= 0 {
		return digits + strings.Repeat("0", d.power)
	}
	if ahead := len(digits) + d.power; ahead > 0 {
		return digits[:ahead] + "." + digits[ahead:]
	}
	return "0." + strings.Repeat("0", -d.power-len(digits)) + digits
}

// checkPlain asks for an amount with both signs, and has the texts read.
func checkPlain(t *testing.T, c *figures.Conv, s shape, amount int, want string) {
	t.Helper()
	for _, negative := range []bool{false, true} {
		bits := s.signed(amount, negative)
		writes(t, c, "P13", bits, formatOf(s), api.Plain, -1, 0, minus(want, negative))
		if back, _, _, e := c.Parse(minus(want, negative), formatOf(s), api.Even); back != bits || e != api.OK {
			t.Errorf("P13: %s %x: %.60q is read as %x, %d", s.name, bits, minus(want, negative), back, e)
		}
	}
}

// Numbers that each format holds: the digits end ahead of the point, just at
// it or behind it, or the first stands behind it, at once or after noughts.
func TestP13Places(t *testing.T) {
	c := figures.New()
	for _, s := range shapes {
		for _, number := range []string{"0", "1", "2", "9", "10", "12", "20", "99", "100", "101", "120", "1000", "1001", "1010", "2000", "1.5", "10.5", "12.5", "100.5", "1.25", "9.75", "0.5", "0.25", "0.75", "0.125", "0.0625", "0.03125"} {
			checkPlain(t, c, s, amountOf(t, s, number), number)
		}
	}
}

func TestP13Texts(t *testing.T) {
	c := figures.New()
	for _, k := range []struct {
		amount, format int
		want           string
	}{
		{0x7c00 - 1, api.Half, "65500"}, {0x7bfe, api.Half, "65470"}, {0x70e2, api.Half, "10000"}, {0x7a1a, api.Half, "50000"}, {0x6c04, api.Half, "4110"}, {0x6c03, api.Half, "4108"}, {0x5c01, api.Half, "256.2"}, {0x4248, api.Half, "3.14"}, {0x3555, api.Half, "0.3333"}, {0x2e66, api.Half, "0.1"}, {0x211f, api.Half, "0.01"}, {0x2400, api.Half, "0.01563"}, {0x400, api.Half, "0.00006104"}, {0x3ff, api.Half, "0.000061"}, {1, api.Half, "0.00000006"}, {2, api.Half, "0.0000001"}, {4, api.Half, "0.00000024"},
		{0x3dcccccd, api.Single, "0.1"}, {0x3dcccccc, api.Single, "0.099999994"}, {0x40490fdb, api.Single, "3.1415927"}, {0x4b800001, api.Single, "16777218"}, {0x4c000001, api.Single, "33554436"}, {0x4cbebc20, api.Single, "100000000"}, {0x7f7fffff, api.Single, "340282350000000000000000000000000000000"}, {0x800000, api.Single, "0.000000000000000000000000000000000000011754944"}, {1, api.Single, "0.000000000000000000000000000000000000000000001"},
		{0x4024000000000000, api.Double, "10"}, {0x44b52d02c7e14af6, api.Double, "100000000000000000000000"}, {0x400921fb54442d18, api.Double, "3.141592653589793"}, {0x3fb999999999999a, api.Double, "0.1"}, {0x4340000000000000, api.Double, "9007199254740992"}, {0x4350000000000002, api.Double, "18014398509481990"}, {0x3f50624dd2f1a9fc, api.Double, "0.001"}, {0x40fe240c9fbe76c9, api.Double, "123456.789"},
		{0x7fefffffffffffff, api.Double, "17976931348623157" + strings.Repeat("0", 292)}, {1, api.Double, "0." + strings.Repeat("0", 323) + "5"}, {2, api.Double, "0." + strings.Repeat("0", 322) + "1"}, {1 << 52, api.Double, "0." + strings.Repeat("0", 307) + "22250738585072014"}, {1<<52 - 1, api.Double, "0." + strings.Repeat("0", 307) + "2225073858507201"},
	} {
		checkPlain(t, c, shapes[k.format], k.amount, k.want)
	}
}

// Every power of two, and the edges of all formats.
func TestP13AgainstDecimals(t *testing.T) {
	c := figures.New()
	chance := &source{13}
	for _, s := range shapes {
		amounts := s.lowers()
		for x := 1; x < 1<<s.e-1; x++ {
			amounts = append(amounts, x<<s.f)
		}
		for i := 0; i < 300; i++ {
			amounts = append(amounts, chance.amount(s))
		}
		for _, a := range amounts {
			if a > 0 {
				checkPlain(t, c, s, a, s.fewest(a).plain())
			}
		}
	}
}

// Every number of Half, by the digits that Short writes.
func TestP13EveryHalf(t *testing.T) {
	c := figures.New()
	s := shapes[api.Half]
	for a := 1; a < s.infinity(); a++ {
		text, _ := c.Format(a, api.Half, api.Short, -1, 0)
		digits, power, _ := strings.Cut(text, "e")
		many, _ := strconv.Atoi(strings.Replace(digits, ".", "", 1))
		first, _ := strconv.Atoi(power)
		d := few{many: many}
		d.power = first - d.count() + 1
		if d.short() != text {
			t.Fatalf("P12: %x is written as %q", a, text)
		}
		checkPlain(t, c, s, a, d.plain())
	}
}

func TestP13AgainstFloats(t *testing.T) {
	c := figures.New()
	chance := &source{131}
	for i := 0; i < 10000; i++ {
		bits := chance.below(1<<31)<<33 ^ chance.below(1<<31)<<16 ^ chance.below(1<<16)
		if f := math.Float64frombits(uint64(bits)); f-f == 0 {
			writes(t, c, "P13", bits, api.Double, api.Plain, -1, 0, strconv.FormatFloat(f, 'f', -1, 64))
		}
		bits = int(uint32(bits >> 20))
		if f := math.Float32frombits(uint32(bits)); f-f == 0 {
			writes(t, c, "P13", bits, api.Single, api.Plain, -1, 0, strconv.FormatFloat(float64(f), 'f', -1, 32))
		}
	}
}

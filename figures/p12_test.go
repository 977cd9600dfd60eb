package figures_test

import (
	"math"
	"math/big"
	"strconv"
	"testing"

	"figures/api"
	"figures/figures"
)

// few is a decimal: many, which does not end with a nought, times ten to power.
type few struct{ many, power int }

func (d few) count() int { return len(itoa(d.many)) }

func (d few) number() *big.Rat {
	r := new(big.Rat).SetInt64(int64(d.many))
	return r.Mul(r, power10(d.power))
}

// short is the decimal as P12 lays it out.
func (d few) short() string {
	digits := itoa(d.many)
	power := d.power + len(digits) - 1
	if len(digits) > 1 {
		digits = digits[:1] + "." + digits[1:]
	}
	return digits + "e" + itoa(power)
}

// better is the one of two decimals, both read as r, that P12 prefers; one
// without digits is none.
func better(a, b few, r *big.Rat) few {
	if a.many == 0 || a.count() > b.count() {
		return b
	}
	if b.many == 0 || b.count() > a.count() {
		return a
	}
	far := new(big.Rat).Sub(a.number(), r)
	further := new(big.Rat).Sub(b.number(), r)
	if side := far.Abs(far).Cmp(further.Abs(further)); side < 0 || side == 0 && a.many%2 == 0 {
		return a
	}
	return b
}

// halves are half of the way to the amount below and to that above.
func (s shape) halves(amount int) (*big.Rat, *big.Rat) {
	low := new(big.Rat).Add(s.number(amount-1), s.number(amount))
	high := new(big.Rat).Add(s.number(amount), s.number(amount+1))
	return low.Quo(low, big.NewRat(2, 1)), high.Quo(high, big.NewRat(2, 1))
}

// fewest goes through all decimals with so few digits that mode 0 rounds to
// the amount.
func (s shape) fewest(amount int) few {
	low, high := s.halves(amount)
	best := few{}
	for power := firstPower(high); best.many == 0 || firstPower(low)-power < best.count(); power-- {
		from := new(big.Rat).Quo(low, power10(power))
		many := new(big.Int).Quo(from.Num(), from.Denom()).Int64()
		for ; ; many++ {
			d := few{int(many), power}
			above, below := d.number().Cmp(low), d.number().Cmp(high)
			if below > 0 {
				break
			}
			inside := above > 0 && below < 0 || (above == 0 || below == 0) && amount%2 == 0
			if inside && many%10 != 0 {
				best = better(best, d, s.number(amount))
			}
		}
	}
	return best
}

// checkShort asks for an amount with both signs, and has the texts read.
func checkShort(t *testing.T, c *figures.Conv, s shape, amount int, want string) {
	t.Helper()
	for _, negative := range []bool{false, true} {
		bits := s.signed(amount, negative)
		writes(t, c, "P12", bits, formatOf(s), api.Short, -1, 0, minus(want, negative))
		if back, _, _, e := c.Parse(minus(want, negative), formatOf(s), api.Even); back != bits || e != api.OK {
			t.Errorf("P12: %s %x: %q is read as %x, %d", s.name, bits, minus(want, negative), back, e)
		}
	}
}

func TestP12Texts(t *testing.T) {
	c := figures.New()
	for _, k := range []struct {
		amount, format int
		want           string
	}{
		{0, api.Half, "0"}, {0, api.Single, "0"}, {0, api.Double, "0"},
		{0x3c00, api.Half, "1e0"}, {0x4000, api.Half, "2e0"}, {0x4900, api.Half, "1e1"}, {0x4a40, api.Half, "1.25e1"}, {0x5640, api.Half, "1e2"}, {0x2e66, api.Half, "1e-1"}, {0x3555, api.Half, "3.333e-1"}, {0x3800, api.Half, "5e-1"}, {0x3bff, api.Half, "9.995e-1"}, {0x3c01, api.Half, "1.001e0"}, {0x211f, api.Half, "1e-2"}, {0x2120, api.Half, "1.001e-2"}, {0x211e, api.Half, "9.995e-3"}, {0x70e2, api.Half, "1e4"}, {0x63d0, api.Half, "1e3"}, {0x7800, api.Half, "3.277e4"},
		{0x3f800000, api.Single, "1e0"}, {0x3dcccccd, api.Single, "1e-1"}, {0x3dcccccc, api.Single, "9.9999994e-2"}, {0x3dccccce, api.Single, "1.0000001e-1"}, {0x40490fdb, api.Single, "3.1415927e0"}, {0x4b800001, api.Single, "1.6777218e7"}, {0x3eaaaaab, api.Single, "3.3333334e-1"}, {0x461c4000, api.Single, "1e4"}, {0x7149f2ca, api.Single, "1e30"},
		{0x3ff0000000000000, api.Double, "1e0"}, {0x3fb999999999999a, api.Double, "1e-1"}, {0x3fb9999999999999, api.Double, "9.999999999999999e-2"}, {0x3fb999999999999b, api.Double, "1.0000000000000002e-1"}, {0x400921fb54442d18, api.Double, "3.141592653589793e0"}, {0x3fd3333333333334, api.Double, "3.0000000000000004e-1"}, {0x4341c37937e08000, api.Double, "1e16"}, {0x54b249ad2594c37d, api.Double, "1e100"}, {0x2b2bff2ee48e0530, api.Double, "1e-100"}, {0x405edd2f1a9fbe77, api.Double, "1.23456e2"},
	} {
		checkShort(t, c, shapes[k.format], k.amount, k.want)
	}
}

// The least numbers, those around the least normal one, the greatest ones.
func TestP12Ends(t *testing.T) {
	c := figures.New()
	for _, k := range []struct {
		amount, format int
		want           string
	}{
		{1, api.Half, "6e-8"}, {2, api.Half, "1e-7"}, {3, api.Half, "2e-7"}, {4, api.Half, "2.4e-7"}, {5, api.Half, "3e-7"}, {0x3fe, api.Half, "6.09e-5"}, {0x3ff, api.Half, "6.1e-5"}, {0x400, api.Half, "6.104e-5"}, {0x401, api.Half, "6.11e-5"}, {0x7bfe, api.Half, "6.547e4"}, {0x7bff, api.Half, "6.55e4"},
		{1, api.Single, "1e-45"}, {2, api.Single, "3e-45"}, {3, api.Single, "4e-45"}, {0x7ffffe, api.Single, "1.1754941e-38"}, {0x7fffff, api.Single, "1.1754942e-38"}, {0x800000, api.Single, "1.1754944e-38"}, {0x800001, api.Single, "1.1754945e-38"}, {0x7f7ffffe, api.Single, "3.4028233e38"}, {0x7f7fffff, api.Single, "3.4028235e38"},
		{1, api.Double, "5e-324"}, {2, api.Double, "1e-323"}, {3, api.Double, "1.5e-323"}, {4, api.Double, "2e-323"}, {1<<52 - 2, api.Double, "2.2250738585072004e-308"}, {1<<52 - 1, api.Double, "2.225073858507201e-308"}, {1 << 52, api.Double, "2.2250738585072014e-308"}, {1<<52 + 1, api.Double, "2.225073858507202e-308"}, {0x7feffffffffffffe, api.Double, "1.7976931348623155e308"}, {0x7fefffffffffffff, api.Double, "1.7976931348623157e308"},
	} {
		checkShort(t, c, shapes[k.format], k.amount, k.want)
	}
}

// Powers of two: a decimal that would do above is too far off below, so that
// another one or one more digit is needed.
func TestP12PowersOfTwo(t *testing.T) {
	c := figures.New()
	for _, k := range []struct {
		amount, format int
		want           string
	}{
		{0x2000, api.Half, "7.812e-3"}, {0x2400, api.Half, "1.563e-2"},
		{0x0f800000, api.Single, "1.2621775e-29"}, {0x6b000000, api.Single, "1.5474251e26"}, {0x6c800000, api.Single, "1.2379401e27"}, {0x0c000000, api.Single, "9.8607613e-32"}, {0x28000000, api.Single, "7.1054274e-15"}, {0x4c000000, api.Single, "3.3554432e7"}, {0x4c800000, api.Single, "6.7108864e7"},
		{0x0060000000000000, api.Double, "7.120236347223045e-307"}, {0x0100000000000000, api.Double, "7.291122019556398e-304"}, {0x1690000000000000, api.Double, "5.225680706521042e-200"}, {0x0040000000000000, api.Double, "1.7800590868057611e-307"}, {0x03e0000000000000, api.Double, "5.1306710016229703e-290"}, {0x4340000000000000, api.Double, "9.007199254740992e15"},
	} {
		checkShort(t, c, shapes[k.format], k.amount, k.want)
	}
}

// Every power of two, and some of the numbers beside them.
func TestP12AllPowersOfTwo(t *testing.T) {
	c := figures.New()
	for _, s := range shapes {
		for x := 1; x < 1<<s.e-1; x++ {
			a := x << s.f
			checkShort(t, c, s, a, s.fewest(a).short())
			if s.name != "Double" || x%16 == 1 {
				checkShort(t, c, s, a-1, s.fewest(a-1).short())
				checkShort(t, c, s, a+1, s.fewest(a+1).short())
			}
		}
		for i := 0; i < s.f; i++ {
			checkShort(t, c, s, 1<<i, s.fewest(1<<i).short())
		}
	}
}

// Decimals just half of the way between two numbers, with fewer digits than
// any other has that is read as either of them: only the even one has it.
func TestP12Halves(t *testing.T) {
	c := figures.New()
	chance := &source{12}
	for _, s := range shapes {
		five, cases := 1, 0
		for power := 1; five*5 < 2<<(s.f+1); power++ {
			five *= 5
			for i := 0; i < 12; i++ {
				// many times five to the power needs one bit more than there are.
				low, high := (1<<(s.f+1)+five-1)/five, (2<<(s.f+1)-1)/five
				many := low + chance.below(min(high-low+1, 1<<30))
				if d := (few{many, power}); many%2 == 1 && many <= high && d.number().Cmp(s.number(s.infinity()-1)) < 0 {
					checkHalf(t, c, s, d)
					cases++
				}
			}
		}
		if cases < 10 {
			t.Errorf("%s: only %d cases", s.name, cases)
		}
	}
}

func checkHalf(t *testing.T, c *figures.Conv, s shape, d few) {
	t.Helper()
	lower := s.lower(d.number())
	if _, high := s.halves(lower); high.Cmp(d.number()) != 0 {
		t.Errorf("%s: %s is not half of the way", s.name, d.short())
	}
	even, odd := lower, lower+1
	if lower%2 == 1 {
		even, odd = odd, even
	}
	checkShort(t, c, s, even, d.short())
	checkShort(t, c, s, odd, s.fewest(odd).short())
}

// The same with few digits, the numbers on both sides being known.
func TestP12KnownHalves(t *testing.T) {
	c := figures.New()
	for _, k := range []struct {
		even, odd, format int
		half, other       string
	}{
		{0x7a1a, 0x7a1b, api.Half, "5e4", "5.002e4"}, {0x6c04, 0x6c03, api.Half, "4.11e3", "4.108e3"},
		{0x50df8476, 0x50df8475, api.Single, "3e10", "2.9999999e10"},
		{0x44b52d02c7e14af6, 0x44b52d02c7e14af7, api.Double, "1e23", "1.0000000000000001e23"}, {0x4350000000000002, 0x4350000000000001, api.Double, "1.801439850948199e16", "1.8014398509481988e16"},
	} {
		checkShort(t, c, shapes[k.format], k.even, k.half)
		checkShort(t, c, shapes[k.format], k.odd, k.other)
	}
}

// Two decimals as near to the number: the one whose last digit is even.
func TestP12AsNear(t *testing.T) {
	c := figures.New()
	for _, k := range []struct {
		number string
		format int
		want   string
	}{
		{"256.25", api.Half, "2.562e2"}, {"256.75", api.Half, "2.568e2"}, {"299.25", api.Half, "2.992e2"}, {"299.75", api.Half, "2.998e2"}, {"16.125", api.Half, "1.612e1"}, {"16.375", api.Half, "1.638e1"}, {"16.625", api.Half, "1.662e1"}, {"16.875", api.Half, "1.688e1"}, {"2.0625", api.Half, "2.062e0"}, {"2.1875", api.Half, "2.188e0"},
		{"2097152.25", api.Single, "2.0971522e6"}, {"2097152.75", api.Single, "2.0971528e6"}, {"262144.125", api.Single, "2.6214412e5"}, {"262144.375", api.Single, "2.6214438e5"},
		{"1125899906842624.25", api.Double, "1.1258999068426242e15"}, {"1125899906842624.75", api.Double, "1.1258999068426248e15"}, {"1125899906842625.25", api.Double, "1.1258999068426252e15"}, {"140737488355328.125", api.Double, "1.4073748835532812e14"}, {"140737488355328.375", api.Double, "1.4073748835532838e14"},
	} {
		s := shapes[k.format]
		a := amountOf(t, s, k.number)
		checkShort(t, c, s, a, k.want)
		if want := s.fewest(a).short(); want != k.want {
			t.Errorf("P12: %s %s: %q is not %q", s.name, k.number, k.want, want)
		}
	}
}

// Several decimals of as few digits: the nearest.
func TestP12Nearest(t *testing.T) {
	c := figures.New()
	for _, s := range shapes {
		for a := 1; a < 400; a++ {
			checkShort(t, c, s, a, s.fewest(a).short())
		}
	}
	for _, k := range []struct {
		amount, format int
		want           string
	}{
		// Of 3e-8 to 8e-8, of 1e-45 and 2e-45, of 3e-324 to 7e-324.
		{1, api.Half, "6e-8"}, {1, api.Single, "1e-45"}, {1, api.Double, "5e-324"},
		// Of 3.332e-1 and 3.333e-1, of 1.8014398509481983e16 to 1.8014398509481986e16.
		{0x3555, api.Half, "3.333e-1"}, {0x4350000000000000, api.Double, "1.8014398509481984e16"},
	} {
		checkShort(t, c, shapes[k.format], k.amount, k.want)
	}
}

// Every number of Half: all decimals of up to five digits go through Parse.
func TestP12EveryHalf(t *testing.T) {
	c := figures.New()
	s := shapes[api.Half]
	best := make([]few, s.infinity())
	for many := 1; many < 100000; many++ {
		for power := -13; power <= 4 && many%10 != 0; power++ {
			bits, _, _, e := c.Parse(itoa(many)+"e"+itoa(power), api.Half, api.Even)
			if e != api.OK {
				t.Fatalf("P12: %de%d is not read: %d", many, power, e)
			}
			if bits > 0 && bits < s.infinity() {
				best[bits] = better(best[bits], few{many, power}, s.number(bits))
			}
		}
	}
	for a := 1; a < s.infinity(); a++ {
		checkShort(t, c, s, a, best[a].short())
	}
}

// amount is any finite one.
func (s *source) amount(f shape) int {
	return (s.below(1<<31)<<32 + s.below(1<<31)<<1 + s.below(2)) % f.infinity()
}

func TestP12AgainstDecimals(t *testing.T) {
	c := figures.New()
	chance := &source{120}
	for _, s := range shapes {
		amounts := s.lowers()
		for i := 0; i < 600; i++ {
			amounts = append(amounts, chance.amount(s))
		}
		for _, a := range amounts {
			if a > 0 {
				checkShort(t, c, s, a, s.fewest(a).short())
			}
		}
	}
}

func TestP12AgainstFloats(t *testing.T) {
	c := figures.New()
	chance := &source{121}
	for i := 0; i < 10000; i++ {
		bits := chance.below(1<<31)<<33 ^ chance.below(1<<31)<<16 ^ chance.below(1<<16)
		if f := math.Float64frombits(uint64(bits)); f-f == 0 && f != 0 {
			writes(t, c, "P12", bits, api.Double, api.Short, -1, 0, plainPower(t, strconv.FormatFloat(f, 'e', -1, 64)))
		}
		bits = int(uint32(bits >> 20))
		if f := math.Float32frombits(uint32(bits)); f-f == 0 && f != 0 {
			writes(t, c, "P12", bits, api.Single, api.Short, -1, 0, plainPower(t, strconv.FormatFloat(float64(f), 'e', -1, 32)))
		}
	}
}

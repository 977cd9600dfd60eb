package figures_test

import (
	"math"
	"strconv"
	"strings"
	"testing"

	"figures/api"
	"figures/figures"
)

func TestP11Halves(t *testing.T) {
	c := figures.New()
	for _, s := range shapes {
		for _, k := range []tie{
			{"0.5", 0, "0", "1", true}, {"1.5", 0, "1", "2", false}, {"2.5", 0, "2", "3", true}, {"9.5", 0, "9", "10", false}, {"99.5", 0, "99", "100", false}, {"100.5", 0, "100", "101", true}, {"999.5", 0, "999", "1000", false},
			{"0.25", 1, "0.2", "0.3", true}, {"0.75", 1, "0.7", "0.8", false}, {"0.125", 2, "0.12", "0.13", true}, {"0.375", 2, "0.37", "0.38", false}, {"1.25", 1, "1.2", "1.3", true}, {"0.0625", 3, "0.062", "0.063", true}, {"12.0625", 3, "12.062", "12.063", true}, {"9.9375", 3, "9.937", "9.938", false}, {"7.75", 1, "7.7", "7.8", false},
		} {
			checkTie(t, c, s, api.Fix, k)
		}
	}
}

// Numbers that are rounded to no digit ahead of the point, or to 0.
func TestP11Small(t *testing.T) {
	c := figures.New()
	for _, s := range shapes {
		for _, k := range []struct {
			number       string
			prec         int
			lower, upper string
			half         int
		}{
			{"0.25", 0, "0", "1", -1}, {"0.75", 0, "0", "1", 1}, {"0.0625", 0, "0", "1", -1}, {"0.0625", 1, "0.0", "0.1", 1}, {"0.03125", 1, "0.0", "0.1", -1}, {"0.03125", 0, "0", "1", -1}, {"0.00390625", 2, "0.00", "0.01", -1}, {"0.00390625", 1, "0.0", "0.1", -1}, {"0.0078125", 2, "0.00", "0.01", 1}, {"0.00390625", 3, "0.003", "0.004", 1}, {"0.96875", 1, "0.9", "1.0", 1}, {"0.99609375", 2, "0.99", "1.00", 1}, {"9.96875", 1, "9.9", "10.0", 1}, {"99.9375", 1, "99.9", "100.0", -1},
		} {
			even := k.lower != "0.003" && k.lower[len(k.lower)-1] != '9'
			checkByMode(t, c, s, amountOf(t, s, k.number), api.Fix, k.prec, between(k.lower, k.upper, k.half, even))
		}
		// The least number, far below what is written.
		for _, prec := range []int{0, 1, 2, 5} {
			lower, upper := "0."+strings.Repeat("0", prec), "0."+strings.Repeat("0", max(prec-1, 0))+"1"
			if prec == 0 {
				lower, upper = "0", "1"
			}
			checkByMode(t, c, s, 1, api.Fix, prec, between(lower, upper, -1, true))
		}
	}
}

func TestP11Exact(t *testing.T) {
	c := figures.New()
	for _, s := range shapes {
		for _, k := range []struct {
			number string
			prec   int
			want   string
		}{
			{"1", 0, "1"}, {"1", 1, "1.0"}, {"1", 3, "1.000"}, {"10", 0, "10"}, {"10", 2, "10.00"}, {"100", 0, "100"}, {"1024", 0, "1024"}, {"1024", 2, "1024.00"}, {"60000", 0, "60000"}, {"60000", 1, "60000.0"}, {"0.5", 1, "0.5"}, {"0.5", 4, "0.5000"}, {"0.125", 3, "0.125"}, {"0.00390625", 8, "0.00390625"}, {"0.00390625", 10, "0.0039062500"}, {"12.0625", 4, "12.0625"}, {"10.5", 1, "10.5"}, {"100.25", 2, "100.25"},
		} {
			checkByMode(t, c, s, amountOf(t, s, k.number), api.Fix, k.prec, exactly(k.want))
		}
		checkByMode(t, c, s, amountOf(t, s, "1"), api.Fix, 800, exactly("1."+strings.Repeat("0", 800)))
		checkByMode(t, c, s, amountOf(t, s, "0.75"), api.Fix, 800, exactly("0.75"+strings.Repeat("0", 798)))
	}
}

func TestP11Zero(t *testing.T) {
	c := figures.New()
	for _, s := range shapes {
		checkByMode(t, c, s, 0, api.Fix, 0, exactly("0"))
		checkByMode(t, c, s, 0, api.Fix, 1, exactly("0.0"))
		checkByMode(t, c, s, 0, api.Fix, 17, exactly("0."+strings.Repeat("0", 17)))
		checkByMode(t, c, s, 0, api.Fix, 800, exactly("0."+strings.Repeat("0", 800)))
	}
}

// Great numbers with all their digits, and the least ones.
func TestP11Ends(t *testing.T) {
	c := figures.New()
	half, single, double := shapes[api.Half], shapes[api.Single], shapes[api.Double]
	checkByMode(t, c, half, 0x7bff, api.Fix, 0, exactly("65504"))
	checkByMode(t, c, half, 0x7bff, api.Fix, 2, exactly("65504.00"))
	checkByMode(t, c, half, 1, api.Fix, 24, exactly("0.000000059604644775390625"))
	checkByMode(t, c, half, 1, api.Fix, 23, between("0.00000005960464477539062", "0.00000005960464477539063", 0, true))
	checkByMode(t, c, half, 1, api.Fix, 8, between("0.00000005", "0.00000006", 1, false))
	checkByMode(t, c, half, 1, api.Fix, 7, between("0.0000000", "0.0000001", 1, true))
	checkByMode(t, c, half, 1, api.Fix, 6, between("0.000000", "0.000001", -1, true))
	checkByMode(t, c, half, 1, api.Fix, 800, exactly("0.000000059604644775390625"+strings.Repeat("0", 776)))
	greatest := "340282346638528859811704183484516925440"
	checkByMode(t, c, single, 0x7f7fffff, api.Fix, 0, exactly(greatest))
	checkByMode(t, c, single, 0x7f7fffff, api.Fix, 800, exactly(greatest+"."+strings.Repeat("0", 800)))
	checkByMode(t, c, single, 1, api.Fix, 45, between("0."+strings.Repeat("0", 44)+"1", "0."+strings.Repeat("0", 44)+"2", -1, false))
	greatest = "17976931348623157081452742373170435679807056752584499659891747680315726078002853876058955863276687817154045895351438246423432132688946418276846754670353751" +
		"6986049910576551282076245490090389328944075868508455133942304583236903222948165808559332123348274797826204144723168738177180919299881250404026184124858368"
	checkByMode(t, c, double, 0x7fefffffffffffff, api.Fix, 0, exactly(greatest))
	checkByMode(t, c, double, 0x7fefffffffffffff, api.Fix, 800, exactly(greatest+"."+strings.Repeat("0", 800)))
	checkByMode(t, c, double, 1, api.Fix, 324, between("0."+strings.Repeat("0", 323)+"4", "0."+strings.Repeat("0", 323)+"5", 1, true))
	checkByMode(t, c, double, 1, api.Fix, 323, between("0."+strings.Repeat("0", 323), "0."+strings.Repeat("0", 322)+"1", -1, true))
	checkByMode(t, c, double, 0x44b52d02c7e14af6, api.Fix, 0, exactly("99999999999999991611392"))
}

func TestP11AgainstFractions(t *testing.T) {
	c := figures.New()
	for _, s := range shapes {
		for i, a := range s.lowers() {
			last := s.number(a).Denom().BitLen() - 1
			first := 0
			if a > 0 {
				first = -firstPower(s.number(a))
			}
			for _, prec := range []int{0, 1, 2, i % 25, first - 2, first - 1, first, first + 1, last - 1, last, last + 1, 800} {
				if prec >= 0 && prec <= 800 {
					checkWritten(t, c, s, a, api.Fix, prec)
				}
			}
		}
	}
}

func TestP11EveryHalf(t *testing.T) {
	c := figures.New()
	s := shapes[api.Half]
	for a := 0; a < s.infinity(); a += 7 {
		for _, prec := range []int{0, 3, s.number(a).Denom().BitLen() - 2} {
			if prec >= 0 {
				checkWritten(t, c, s, a, api.Fix, prec)
			}
		}
	}
}

func TestP11AgainstFloats(t *testing.T) {
	c := figures.New()
	chance := &source{11}
	for i := 0; i < 20000; i++ {
		bits := chance.below(1<<31)<<33 ^ chance.below(1<<31)<<16 ^ chance.below(1<<16)
		if i%2 == 0 {
			// More of them near to 1, where digits stand on both sides of the point.
			bits = bits&^(0x7ff<<52) | (1023-60+chance.below(120))<<52
		}
		prec := chance.below(1 + chance.below(60))
		if f := math.Float64frombits(uint64(bits)); f-f == 0 {
			writes(t, c, "P11", bits, api.Double, api.Fix, prec, api.Even, strconv.FormatFloat(f, 'f', prec, 64))
		}
		bits = int(uint32(bits >> 20))
		if f := math.Float32frombits(uint32(bits)); f-f == 0 {
			writes(t, c, "P11", bits, api.Single, api.Fix, prec, api.Even, strconv.FormatFloat(float64(f), 'f', prec, 32))
		}
	}
}

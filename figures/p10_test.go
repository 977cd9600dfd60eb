package figures_test

import (
	"math"
	"strconv"
	"strings"
	"testing"

	"figures/api"
	"figures/figures"
)

// Just at half of the way, a little less and a little more.
func TestP10Halves(t *testing.T) {
	c := figures.New()
	for _, s := range shapes {
		for _, k := range []tie{
			{"1.5", 0, "1e0", "2e0", false}, {"2.5", 0, "2e0", "3e0", true}, {"8.5", 0, "8e0", "9e0", true}, {"9.5", 0, "9e0", "1e1", false},
			{"12.5", 1, "1.2e1", "1.3e1", true}, {"13.5", 1, "1.3e1", "1.4e1", false}, {"15", 0, "1e1", "2e1", false}, {"25", 0, "2e1", "3e1", true}, {"95", 0, "9e1", "1e2", false}, {"850", 0, "8e2", "9e2", true},
			{"99.5", 1, "9.9e1", "1.0e2", false}, {"0.125", 1, "1.2e-1", "1.3e-1", true}, {"0.375", 1, "3.7e-1", "3.8e-1", false}, {"0.0625", 1, "6.2e-2", "6.3e-2", true}, {"1.0625", 3, "1.062e0", "1.063e0", true}, {"999.5", 2, "9.99e2", "1.00e3", false},
		} {
			checkTie(t, c, s, api.Exp, k)
		}
	}
}

// A little more than a number with so many digits, and a little less.
func TestP10NearSteps(t *testing.T) {
	c := figures.New()
	for _, s := range shapes {
		for _, k := range []struct {
			number        string
			prec          int
			less, is, yet string
		}{
			{"3", 0, "2e0", "3e0", "4e0"}, {"9", 0, "8e0", "9e0", "1e1"}, {"8", 1, "7.9e0", "8.0e0", "8.1e0"}, {"10", 0, "9e0", "1e1", "2e1"}, {"10", 1, "9.9e0", "1.0e1", "1.1e1"}, {"1", 0, "9e-1", "1e0", "2e0"}, {"1", 2, "9.99e-1", "1.00e0", "1.01e0"}, {"100", 0, "9e1", "1e2", "2e2"}, {"0.25", 1, "2.4e-1", "2.5e-1", "2.6e-1"}, {"1000", 2, "9.99e2", "1.00e3", "1.01e3"},
		} {
			amount := amountOf(t, s, k.number)
			checkByMode(t, c, s, amount, api.Exp, k.prec, exactly(k.is))
			checkByMode(t, c, s, amount-1, api.Exp, k.prec, between(k.less, k.is, 1, true))
			checkByMode(t, c, s, amount+1, api.Exp, k.prec, between(k.is, k.yet, -1, true))
		}
	}
}

// Numbers that are exact with so many digits, and with fewer.
func TestP10Exact(t *testing.T) {
	c := figures.New()
	for _, s := range shapes {
		for _, k := range []struct {
			number string
			prec   int
			want   string
		}{
			{"1", 0, "1e0"}, {"1", 1, "1.0e0"}, {"1", 5, "1.00000e0"}, {"10", 0, "1e1"}, {"12", 1, "1.2e1"}, {"12", 4, "1.2000e1"}, {"0.5", 0, "5e-1"}, {"0.5", 3, "5.000e-1"}, {"0.125", 2, "1.25e-1"}, {"1024", 3, "1.024e3"}, {"1024", 4, "1.0240e3"}, {"1.0625", 4, "1.0625e0"}, {"0.00390625", 5, "3.90625e-3"}, {"0.00390625", 7, "3.9062500e-3"}, {"60000", 0, "6e4"}, {"60000", 3, "6.000e4"},
		} {
			checkByMode(t, c, s, amountOf(t, s, k.number), api.Exp, k.prec, exactly(k.want))
		}
		checkByMode(t, c, s, amountOf(t, s, "1"), api.Exp, 800, exactly("1."+strings.Repeat("0", 800)+"e0"))
		checkByMode(t, c, s, amountOf(t, s, "0.75"), api.Exp, 800, exactly("7.5"+strings.Repeat("0", 799)+"e-1"))
	}
}

func TestP10Zero(t *testing.T) {
	c := figures.New()
	for _, s := range shapes {
		checkByMode(t, c, s, 0, api.Exp, 0, exactly("0e0"))
		checkByMode(t, c, s, 0, api.Exp, 1, exactly("0.0e0"))
		checkByMode(t, c, s, 0, api.Exp, 17, exactly("0."+strings.Repeat("0", 17)+"e0"))
		checkByMode(t, c, s, 0, api.Exp, 800, exactly("0."+strings.Repeat("0", 800)+"e0"))
	}
}

func TestP10Ends(t *testing.T) {
	c := figures.New()
	for _, k := range []struct {
		amount, format, prec int
		want                 byMode
	}{
		{1, api.Half, 0, between("5e-8", "6e-8", 1, false)},
		{1, api.Half, 16, exactly("5.9604644775390625e-8")},
		{1, api.Half, 15, between("5.960464477539062e-8", "5.960464477539063e-8", 0, true)},
		{0x3ff, api.Half, 3, between("6.097e-5", "6.098e-5", 1, false)},
		{0x400, api.Half, 4, between("6.1035e-5", "6.1036e-5", -1, false)},
		{0x7bff, api.Half, 0, between("6e4", "7e4", 1, true)},
		{0x7bff, api.Half, 2, between("6.55e4", "6.56e4", -1, false)},
		{0x7bff, api.Half, 4, exactly("6.5504e4")},
		{0x7bff, api.Half, 6, exactly("6.550400e4")},
		{1, api.Single, 0, between("1e-45", "2e-45", -1, false)},
		{1, api.Single, 8, between("1.40129846e-45", "1.40129847e-45", -1, true)},
		{0x7f7fffff, api.Single, 7, between("3.4028234e38", "3.4028235e38", 1, true)},
		{0x7f7fffff, api.Single, 38, exactly("3.40282346638528859811704183484516925440e38")},
		{1, api.Double, 0, between("4e-324", "5e-324", 1, true)},
		{1, api.Double, 16, between("4.9406564584124654e-324", "4.9406564584124655e-324", -1, true)},
		{0x0010000000000000, api.Double, 16, between("2.2250738585072013e-308", "2.2250738585072014e-308", 1, false)},
		{0x7fefffffffffffff, api.Double, 0, between("1e308", "2e308", 1, false)},
		{0x7fefffffffffffff, api.Double, 16, between("1.7976931348623157e308", "1.7976931348623158e308", -1, false)},
	} {
		checkByMode(t, c, shapes[k.format], k.amount, api.Exp, k.prec, k.want)
	}
}

// Edges of all formats, with so many digits that the last one left out is a
// five alone, with one more, and with others, the least and the most.
func TestP10AgainstFractions(t *testing.T) {
	c := figures.New()
	for _, s := range shapes {
		for i, a := range s.lowers() {
			exact := exactCount(s, a)
			for _, prec := range []int{0, 1, 2, i % 25, exact - 3, exact - 2, exact - 1, exact, 800} {
				if prec >= 0 && prec <= 800 {
					checkWritten(t, c, s, a, api.Exp, prec)
				}
			}
		}
	}
}

// exactCount is how many digits a number has, noughts at the end left out.
func exactCount(s shape, amount int) int {
	if amount == 0 {
		return 1
	}
	text, _, _ := strings.Cut(decimal(s.number(amount), 0), "e")
	return len(strings.TrimRight(text, "0"))
}

func TestP10EveryHalf(t *testing.T) {
	c := figures.New()
	s := shapes[api.Half]
	for a := 0; a < s.infinity(); a += 7 {
		for _, prec := range []int{0, 2, exactCount(s, a) - 2} {
			if prec >= 0 {
				checkWritten(t, c, s, a, api.Exp, prec)
			}
		}
	}
}

// plainPower writes the power of Go's own texts as the document does.
func plainPower(t *testing.T, text string) string {
	t.Helper()
	digits, power, _ := strings.Cut(text, "e")
	n, err := strconv.Atoi(power)
	if err != nil {
		t.Fatalf("no power: %q", text)
	}
	return digits + "e" + itoa(n)
}

func TestP10AgainstFloats(t *testing.T) {
	c := figures.New()
	chance := &source{10}
	for i := 0; i < 20000; i++ {
		bits := chance.below(1<<31)<<33 ^ chance.below(1<<31)<<16 ^ chance.below(1<<16)
		prec := chance.below(1 + chance.below(60))
		if f := math.Float64frombits(uint64(bits)); f-f == 0 {
			writes(t, c, "P10", bits, api.Double, api.Exp, prec, api.Even, plainPower(t, strconv.FormatFloat(f, 'e', prec, 64)))
		}
		bits = int(uint32(bits >> 20))
		if f := math.Float32frombits(uint32(bits)); f-f == 0 {
			writes(t, c, "P10", bits, api.Single, api.Exp, prec, api.Even, plainPower(t, strconv.FormatFloat(float64(f), 'e', prec, 32)))
		}
	}
}

package figures_test

import (
	"math/big"
	"strings"
	"testing"

	"figures/api"
	"figures/figures"
)

// writes asks Format for the text of a pattern.
func writes(t *testing.T, c *figures.Conv, promise string, bits, format, verb, prec, mode int, want string) {
	t.Helper()
	text, e := c.Format(bits, format, verb, prec, mode)
	if text != want || e != api.OK {
		t.Errorf("%s: Format(%#x, %d, %d, %d, %d) = %.90q, %d, want %.90q", promise, bits, format, verb, prec, mode, text, e, want)
	}
}

func power10(power int) *big.Rat {
	ten := new(big.Int).Exp(big.NewInt(10), big.NewInt(int64(max(power, -power))), nil)
	r := new(big.Rat).SetInt(ten)
	if power < 0 {
		return r.Inv(r)
	}
	return r
}

// steps is r in steps of ten to the power, rounded as P10 says to a whole
// number of them.
func steps(r *big.Rat, power int, negative bool, mode int) *big.Int {
	many := new(big.Rat).Quo(r, power10(power))
	lower := new(big.Int).Quo(many.Num(), many.Denom())
	over := new(big.Rat).Sub(many, new(big.Rat).SetInt(lower))
	if over.Sign() == 0 {
		return lower
	}
	parity := int(lower.Bit(0))
	up := chosen(parity, over.Cmp(big.NewRat(1, 2)), negative, mode) - parity
	return lower.Add(lower, big.NewInt(int64(up)))
}

// firstPower is the power of ten of the first digit of r.
func firstPower(r *big.Rat) int {
	power := (r.Num().BitLen() - r.Denom().BitLen()) * 3 / 10
	for power10(power).Cmp(r) > 0 {
		power--
	}
	for power10(power+1).Cmp(r) <= 0 {
		power++
	}
	return power
}

// expOf is what P10 asks of the amount r.
func expOf(r *big.Rat, prec int, negative bool, mode int) string {
	digits, power := strings.Repeat("0", prec+1), 0
	if r.Sign() > 0 {
		power = firstPower(r)
		many := steps(r, power-prec, negative, mode)
		if many.Cmp(power10(prec+1).Num()) == 0 {
			power++
			many = steps(r, power-prec, negative, mode)
		}
		digits = many.String()
	}
	if prec > 0 {
		digits = digits[:1] + "." + digits[1:]
	}
	return minus(digits+"e"+itoa(power), negative)
}

// fixOf is what P11 asks of the amount r.
func fixOf(r *big.Rat, prec int, negative bool, mode int) string {
	digits := steps(r, -prec, negative, mode).String()
	if len(digits) < prec+1 {
		digits = strings.Repeat("0", prec+1-len(digits)) + digits
	}
	if prec > 0 {
		digits = digits[:len(digits)-prec] + "." + digits[len(digits)-prec:]
	}
	return minus(digits, negative)
}

// hexOf is what P9 asks of the amount r.
func hexOf(r *big.Rat, negative bool) string {
	if r.Sign() == 0 {
		return minus("0x0p0", negative)
	}
	power := r.Num().BitLen() - r.Denom().BitLen()
	if scaled(1, power).Cmp(r) > 0 {
		power--
	}
	rest := new(big.Rat).Quo(r, scaled(1, power))
	rest.Sub(rest, big.NewRat(1, 1))
	text := "0x1"
	if rest.Sign() > 0 {
		text += "."
	}
	for rest.Sign() > 0 {
		rest.Mul(rest, big.NewRat(16, 1))
		digit := new(big.Int).Quo(rest.Num(), rest.Denom())
		text += digit.Text(16)
		rest.Sub(rest, new(big.Rat).SetInt(digit))
	}
	return minus(text+"p"+itoa(power), negative)
}

// checkWritten asks for an amount by each mode and with both signs.
func checkWritten(t *testing.T, c *figures.Conv, s shape, amount, verb, prec int) {
	t.Helper()
	r := s.number(amount)
	for _, mode := range modes {
		for _, negative := range []bool{false, true} {
			promise, want := "P10", ""
			if verb == api.Exp {
				want = expOf(r, prec, negative, mode)
			} else {
				promise, want = "P11", fixOf(r, prec, negative, mode)
			}
			writes(t, c, promise, s.signed(amount, negative), formatOf(s), verb, prec, mode, want)
		}
	}
}

// byMode are the answers by modes 0 to 4 for a number above 0 and for the
// same one below 0 (there without the sign).
type byMode struct{ above, below [5]string }

func checkByMode(t *testing.T, c *figures.Conv, s shape, amount, verb, prec int, want byMode) {
	t.Helper()
	for _, mode := range modes {
		writes(t, c, "P10, P11", amount, formatOf(s), verb, prec, mode, want.above[mode])
		writes(t, c, "P10, P11", s.signed(amount, true), formatOf(s), verb, prec, mode, "-"+want.below[mode])
	}
}

// between is what the modes make of a number between two neighbours, the half
// of the way being as chosen takes it; even says that the lower one is even.
func between(lower, upper string, half int, even bool) byMode {
	nearest, away := lower, lower
	if half > 0 || half == 0 && !even {
		nearest = upper
	}
	if half >= 0 {
		away = upper
	}
	return byMode{[5]string{nearest, away, lower, upper, lower}, [5]string{nearest, away, lower, lower, upper}}
}

// tie is a number that stands just at half of the way between two texts.
type tie struct {
	number       string
	prec         int
	lower, upper string
	even         bool
}

// checkTie asks for the number, and for its neighbours among the numbers of
// the format as far as they stand between the two texts as well.
func checkTie(t *testing.T, c *figures.Conv, s shape, verb int, k tie) {
	t.Helper()
	lower, _ := new(big.Rat).SetString(k.lower)
	upper, _ := new(big.Rat).SetString(k.upper)
	amount := amountOf(t, s, k.number)
	for side := -1; side <= 1; side++ {
		r := s.number(amount + side)
		if r.Cmp(lower) > 0 && r.Cmp(upper) < 0 {
			checkByMode(t, c, s, amount+side, verb, k.prec, between(k.lower, k.upper, side, k.even))
		} else if side == 0 || s.name != "Half" {
			t.Errorf("%s: %v is not between %s and %s", s.name, r, k.lower, k.upper)
		}
	}
}

// exactly is what the modes make of a number that needs no rounding.
func exactly(text string) byMode {
	all := [5]string{text, text, text, text, text}
	return byMode{all, all}
}

// amountOf is the amount of a number that the format holds exactly.
func amountOf(t *testing.T, s shape, text string) int {
	t.Helper()
	r, ok := new(big.Rat).SetString(text)
	if !ok {
		t.Fatalf("no fraction: %q", text)
	}
	amount := s.lower(r)
	if s.number(amount).Cmp(r) != 0 {
		t.Fatalf("%s does not hold %q", s.name, text)
	}
	return amount
}

// The last paragraph of the document's examples.
func TestExamplesOfFormat(t *testing.T) {
	c := figures.New()
	writes(t, c, "Examples", 0x3fb999999999999a, api.Double, api.Exp, 20, 0, "1.00000000000000005551e-1")
	writes(t, c, "Examples", 0x3fb999999999999a, api.Double, api.Fix, 3, 0, "0.100")
	writes(t, c, "Examples", 0x4024000000000000, api.Double, api.Plain, -1, 0, "10")
	writes(t, c, "Examples", 0x3555, api.Half, api.Plain, -1, 0, "0.3333")
	writes(t, c, "Examples", 0x4b800001, api.Single, api.Plain, -1, 0, "16777218")
	writes(t, c, "Examples", -1<<63, api.Double, api.Fix, 2, 0, "-0.00")
	writes(t, c, "Examples", 1, api.Double, api.Hex, -1, 0, "0x1p-1074")
	writes(t, c, "Examples", 0x4059000000000000, api.Double, api.Hex, -1, 0, "0x1.9p6")
}

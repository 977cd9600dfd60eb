package figures_test

import (
	"math/big"
	"strconv"

	"figures/api"
)

// shape is a format as the document words it: all bits, those of the exponent, the lower ones.
type shape struct {
	name    string
	w, e, f int
}

var shapes = []shape{{"Half", 16, 5, 10}, {"Single", 32, 8, 23}, {"Double", 64, 11, 52}}

var modes = []int{api.Even, api.Away, api.Cut, api.Up, api.Down}

func (s shape) bias() int        { return 1<<(s.e-1) - 1 }
func (s shape) infinity() int    { return (1<<s.e - 1) << s.f }
func (s shape) leastNormal() int { return 1 << s.f }

// signed sets the highest of the W bits; an int has 64, of which Double has all.
func (s shape) signed(amount int, negative bool) int {
	if negative {
		return int(uint64(amount) | uint64(1)<<(s.w-1))
	}
	return amount
}

// number is what an amount says; infinity's amount says T here.
func (s shape) number(amount int) *big.Rat {
	x, m := amount>>s.f, amount&(1<<s.f-1)
	if x == 0 {
		return scaled(int64(m), 1-s.bias()-s.f)
	}
	return scaled(int64(1<<s.f+m), x-s.bias()-s.f)
}

// scaled is m times two to the power.
func scaled(m int64, power int) *big.Rat {
	r := new(big.Rat).SetInt64(m)
	two := new(big.Int).Lsh(big.NewInt(1), uint(max(power, -power)))
	if power >= 0 {
		return r.Mul(r, new(big.Rat).SetInt(two))
	}
	return r.Quo(r, new(big.Rat).SetInt(two))
}

// lower is the greatest amount, infinity's included, whose number is not above r.
func (s shape) lower(r *big.Rat) int {
	low, high := 0, s.infinity()+1
	for high-low > 1 {
		middle := low + (high-low)/2
		if s.number(middle).Cmp(r) <= 0 {
			low = middle
		} else {
			high = middle
		}
	}
	return low
}

// chosen is the neighbour of lower or lower + 1 that P6 names; half is -1, 0, 1
// for less than, just and more than half of the way between them.
func chosen(lower int, half int, negative bool, mode int) int {
	upper := lower + 1
	switch mode {
	case api.Even:
		if half < 0 || half == 0 && lower%2 == 0 {
			return lower
		}
		return upper
	case api.Away:
		if half < 0 {
			return lower
		}
		return upper
	case api.Cut:
		return lower
	case api.Up:
		if negative {
			return lower
		}
		return upper
	}
	if negative {
		return upper
	}
	return lower
}

// read is the pattern and the flags that P5 to P7 ask for the amount r of a text.
func (s shape) read(r *big.Rat, negative bool, mode int) (int, int) {
	lower := s.lower(r)
	if lower == s.infinity() {
		amount := lower
		if mode == api.Cut || mode == api.Up && negative || mode == api.Down && !negative {
			amount--
		}
		return s.signed(amount, negative), 3
	}
	if s.number(lower).Cmp(r) == 0 {
		return s.signed(lower, negative), 0
	}
	middle := new(big.Rat).Add(s.number(lower), s.number(lower+1))
	middle.Quo(middle, big.NewRat(2, 1))
	amount := chosen(lower, r.Cmp(middle), negative, mode)
	return s.signed(amount, negative), s.flags(lower, amount)
}

// flags of a number that is not exact, between lower and the next number.
func (s shape) flags(lower int, rounded int) int {
	flags := 1
	if rounded == s.infinity() {
		flags += 2
	}
	if lower < s.leastNormal() {
		flags += 4
	}
	return flags
}

// decimal writes a number with a denominator that is a power of two as a
// decimal, exactly; with a step of 1 a little more, of -1 a little less: by
// less than half of the least number of every format.
func decimal(r *big.Rat, step int64) string {
	behind := r.Denom().BitLen() - 1
	if step != 0 {
		behind = max(behind+1, 330)
	}
	ten := new(big.Int).Exp(big.NewInt(10), big.NewInt(int64(behind)), nil)
	digits := ten.Mul(ten, r.Num())
	digits.Quo(digits, r.Denom())
	digits.Add(digits, big.NewInt(step))
	return digits.String() + "e-" + strconv.Itoa(behind)
}

func minus(text string, negative bool) string {
	if negative {
		return "-" + text
	}
	return text
}

// source makes numbers that look like chance but are the same in every run.
type source struct{ state uint64 }

func (s *source) below(n int) int {
	s.state = s.state*6364136223846793005 + 1442695040888963407
	return int(s.state>>33) % n
}

func (s *source) digits(count int, alphabet string) string {
	text := make([]byte, count)
	for i := range text {
		text[i] = alphabet[s.below(len(alphabet))]
	}
	return string(text)
}

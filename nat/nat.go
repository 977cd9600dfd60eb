// Package nat counts with natural numbers of any size.
package nat

// A limb times a factor of less than 2^30 stays far below what an int holds,
// and a billion is still such a factor.
const (
	limbBits = 30
	base     = 1 << limbBits
)

// Nat is a natural number; its zero value is 0. A copy of a Nat shares memory
// with it: hand on its address.
type Nat struct {
	limbs []int // the lowest first; the last one is not 0
}

// FromInt makes the number that value, at least 0, is.
func FromInt(value int) *Nat {
	n := &Nat{}
	for left := value; left > 0; left /= base {
		n.limbs = append(n.limbs, left%base)
	}
	return n
}

// FromDigits makes the number with these digits in base 10 or 16, the first
// digit being the highest.
func FromDigits(digits []int, digitBase int) *Nat {
	n := &Nat{}
	// Digits go in by groups: the number is gone through once for a group.
	group := 0
	scale := 1
	for _, d := range digits {
		if scale*digitBase >= base {
			n.MulAdd(scale, group)
			group = 0
			scale = 1
		}
		group = group*digitBase + d
		scale *= digitBase
	}
	n.MulAdd(scale, group)
	return n
}

// MulAdd multiplies the number by factor and adds addend; both are at least 0
// and less than 2^30.
func (n *Nat) MulAdd(factor int, addend int) {
	carry := addend
	for i := range n.limbs {
		x := n.limbs[i]*factor + carry
		n.limbs[i] = x % base
		carry = x / base
	}
	if carry > 0 {
		n.limbs = append(n.limbs, carry)
	}
	n.trim()
}

// MulPowerOfFive multiplies the number by five to the power.
func (n *Nat) MulPowerOfFive(power int) {
	// Twelve fives at a time: the most whose product stays below 2^30.
	for power >= 12 {
		n.MulAdd(244140625, 0)
		power -= 12
	}
	for power > 0 {
		n.MulAdd(5, 0)
		power--
	}
}

// Shift multiplies the number by two to the power.
func (n *Nat) Shift(power int) {
	if power <= 0 || len(n.limbs) == 0 {
		return
	}
	rest := power % limbBits
	factor := 1
	for i := 0; i < rest; i++ {
		factor *= 2
	}
	n.MulAdd(factor, 0)
	n.shiftLimbs(power / limbBits)
}

func (n *Nat) shiftLimbs(count int) {
	if count <= 0 {
		return
	}
	old := n.limbs
	limbs := make([]int, count+len(old))
	for i := range old {
		limbs[count+i] = old[i]
	}
	n.limbs = limbs
}

// Sub takes m, which is not greater, from the number.
func (n *Nat) Sub(m *Nat) {
	borrow := 0
	for i := range n.limbs {
		x := n.limbs[i] - borrow
		if i < len(m.limbs) {
			x -= m.limbs[i]
		}
		borrow = 0
		if x < 0 {
			x += base
			borrow = 1
		}
		n.limbs[i] = x
	}
	n.trim()
}

// trim keeps the last limb from being 0: lengths tell sizes.
func (n *Nat) trim() {
	top := len(n.limbs)
	for top > 0 && n.limbs[top-1] == 0 {
		top--
	}
	n.limbs = n.limbs[:top]
}

// Digits are the decimal digits of the number, the highest first; 0 has none.
func (n *Nat) Digits() []int {
	left := &Nat{}
	left.limbs = append(left.limbs, n.limbs...)
	digits := []int{}
	for !left.IsZero() {
		group := left.divideByBillion()
		for i := 0; i < 9; i++ {
			digits = append(digits, group%10)
			group /= 10
		}
	}
	return turned(digits)
}

// divideByBillion leaves the quotient and answers what is over.
func (n *Nat) divideByBillion() int {
	const billion = 1000000000
	over := 0
	for i := len(n.limbs) - 1; i >= 0; i-- {
		x := over*base + n.limbs[i]
		n.limbs[i] = x / billion
		over = x % billion
	}
	n.trim()
	return over
}

// turned are the digits in the other order, without the noughts that then
// stand ahead.
func turned(digits []int) []int {
	list := []int{}
	for i := len(digits) - 1; i >= 0; i-- {
		if digits[i] > 0 || len(list) > 0 {
			list = append(list, digits[i])
		}
	}
	return list
}

// IsZero tells whether the number is 0.
func (n *Nat) IsZero() bool {
	return len(n.limbs) == 0
}

// BitLength is how many bits the number has, from its first that is not 0.
func (n *Nat) BitLength() int {
	if len(n.limbs) == 0 {
		return 0
	}
	length := (len(n.limbs) - 1) * limbBits
	for top := n.limbs[len(n.limbs)-1]; top > 0; top /= 2 {
		length++
	}
	return length
}

// Compare answers -1, 0 or 1: a is less than b, the same, or greater.
func Compare(a *Nat, b *Nat) int {
	if len(a.limbs) != len(b.limbs) {
		return order(len(a.limbs), len(b.limbs))
	}
	for i := len(a.limbs) - 1; i >= 0; i-- {
		if a.limbs[i] != b.limbs[i] {
			return order(a.limbs[i], b.limbs[i])
		}
	}
	return 0
}

func order(a int, b int) int {
	if a < b {
		return -1
	}
	if a > b {
		return 1
	}
	return 0
}

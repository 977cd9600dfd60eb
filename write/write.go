// Package write writes amounts as texts.
package write

import "strconv"

// Exp writes digits, one at least, with a point behind the first; power is the
// power of ten of the first.
func Exp(digits []int, power int) string {
	text := []byte{}
	for i, digit := range digits {
		if i == 1 {
			text = append(text, '.')
		}
		text = append(text, digitByte(digit))
	}
	return string(text) + "e" + strconv.Itoa(power)
}

// Fix writes digits, the first of them not 0, so many of which stand behind
// the point. Where there are too few of them noughts stand; a number below 0
// says how many more stand between the digits and the point.
func Fix(digits []int, behind int) string {
	ahead := len(digits) - behind
	text := []byte{}
	if ahead <= 0 {
		text = append(text, '0')
	}
	for i := 0; i < ahead; i++ {
		digit := digitAt(digits, i)
		text = append(text, digitByte(digit))
	}
	if behind > 0 {
		text = append(text, '.')
	}
	for i := ahead; i < len(digits); i++ {
		digit := digitAt(digits, i)
		text = append(text, digitByte(digit))
	}
	return string(text)
}

// digitAt is the digit in a place, 0 ahead of the first and behind the last.
func digitAt(digits []int, place int) int {
	if place < 0 || place >= len(digits) {
		return 0
	}
	return digits[place]
}

// Hex writes factor times two to the power in base 16, with 1 or, for 0, 0
// ahead of the point. factor is at least 0 and less than 2^59.
func Hex(factor int, power int) string {
	if factor <= 0 {
		return "0x0p0"
	}
	// unit is the worth of the first bit within factor.
	unit := 1
	for unit <= factor/2 {
		unit *= 2
		power++
	}
	text := []byte{}
	for rest := factor % unit; rest > 0; rest = rest * 16 % unit {
		text = append(text, digitByte(rest*16/unit))
	}
	point := ""
	if len(text) > 0 {
		point = "."
	}
	return "0x1" + point + string(text) + "p" + strconv.Itoa(power)
}

// digitByte is the byte that stands for a digit of base 10 or 16.
func digitByte(digit int) byte {
	if digit < 10 {
		return byte('0' + digit)
	}
	return byte('a' + digit - 10)
}

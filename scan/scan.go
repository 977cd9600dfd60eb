// Package scan reads texts: what number a text says, or how far it can begin one.
package scan

// The kinds of numbers.
const (
	Decimal  = 0 // Digits in base ten, times ten to Power
	Hex      = 1 // Digits in base 16, times two to Power
	Infinity = 2
	NaN      = 3
)

// Powers grow no further once they have come to this: the digits of a text of
// api.MaxText bytes cannot bring the number back to where formats have numbers.
const farPower = 1000000

// Number is what a text says.
type Number struct {
	Kind     int
	Negative bool
	Digits   []int // from the first that is not 0: none if the number is 0
	Power    int
}

type reader struct {
	text string
	at   int
}

// Read reads a text of at most api.MaxText bytes. If it is no number the
// answer is false and how many of its bytes can begin one.
func Read(text string) (Number, int, bool) {
	r := reader{text: text}
	negative := r.sign()
	number, ok := r.unsigned()
	if !ok || r.at < len(text) {
		return Number{}, r.at, false
	}
	number.Negative = negative
	return number, 0, true
}

// unsigned reads what stands behind the sign. Where it fails, and where it
// ends, r.at is as far as numbers go: no byte is passed that none can have.
func (r *reader) unsigned() (Number, bool) {
	switch r.next() {
	case 'i':
		n := r.word("infinity")
		return Number{Kind: Infinity}, n == len("inf") || n == len("infinity")
	case 'n':
		n := r.word("nan")
		return Number{Kind: NaN}, n == len("nan")
	}
	if r.hexAhead() {
		r.at += len("0x")
		return r.hex()
	}
	return r.decimal()
}

func (r *reader) decimal() (Number, bool) {
	n := Number{Kind: Decimal}
	count := r.digits(&n, 10)
	if r.pass('.') {
		behind := r.digits(&n, 10)
		count += behind
		n.Power = -behind
	}
	if count == 0 {
		return n, false
	}
	if !r.pass('e') {
		return n, true
	}
	power, ok := r.power()
	n.Power += power
	return n, ok
}

func (r *reader) hex() (Number, bool) {
	n := Number{Kind: Hex}
	count := r.digits(&n, 16)
	if count == 0 {
		return n, false
	}
	if r.pass('.') {
		behind := r.digits(&n, 16)
		n.Power = -4 * behind
	}
	if !r.pass('p') {
		return n, false
	}
	power, ok := r.power()
	n.Power += power
	return n, ok
}

// digits passes digits, lays them behind those of n, and counts them.
func (r *reader) digits(n *Number, base int) int {
	start := r.at
	for r.at < len(r.text) {
		d := digitValue(r.text[r.at], base)
		if d < 0 {
			break
		}
		if d > 0 || len(n.Digits) > 0 {
			n.Digits = append(n.Digits, d)
		}
		r.at++
	}
	return r.at - start
}

// power reads a sign or none and digits; false if there is no digit.
func (r *reader) power() (int, bool) {
	negative := r.sign()
	start := r.at
	power := 0
	for r.at < len(r.text) {
		d := digitValue(r.text[r.at], 10)
		if d < 0 {
			break
		}
		if power < farPower {
			power = power*10 + d
		}
		r.at++
	}
	if negative {
		power = -power
	}
	return power, r.at > start
}

// sign passes a sign, if one stands here, and tells whether it is a minus.
func (r *reader) sign() bool {
	if r.pass('-') {
		return true
	}
	r.pass('+')
	return false
}

// pass goes over the byte b, if it stands here, and tells whether it did.
func (r *reader) pass(b byte) bool {
	if r.at >= len(r.text) || r.text[r.at] != b {
		return false
	}
	r.at++
	return true
}

// word passes as much of the word as stands here, and counts the bytes.
func (r *reader) word(word string) int {
	n := 0
	for n < len(word) {
		if !r.pass(word[n]) {
			break
		}
		n++
	}
	return n
}

// next is the byte that stands here; at the end it is 0, which begins nothing.
func (r *reader) next() byte {
	if r.at >= len(r.text) {
		return 0
	}
	return r.text[r.at]
}

func (r *reader) hexAhead() bool {
	if len(r.text)-r.at < len("0x") {
		return false
	}
	return r.text[r.at] == '0' && r.text[r.at+1] == 'x'
}

// digitValue is what a digit of base 10 or 16 is worth, -1 if b is none.
func digitValue(b byte, base int) int {
	if b >= '0' && b <= '9' {
		return int(b - '0')
	}
	if base == 16 && b >= 'a' && b <= 'f' {
		return int(b-'a') + 10
	}
	return -1
}

package decimal

import (
	"math/big"
	"strings"
	"testing"

	"figures/api"
)

func text(digits []int) string {
	t := ""
	for _, d := range digits {
		t += string(rune('0' + d))
	}
	return t
}

func TestFromBinary(t *testing.T) {
	for _, factor := range []int{1, 2, 3, 5, 10, 1000, 1<<24 - 1, 1<<53 - 1, 1 << 52} {
		for _, power := range []int{-1074, -100, -52, -1, 0, 1, 2, 30, 104, 971} {
			d := FromBinary(factor, power)
			want := big.NewInt(int64(factor))
			if power >= 0 {
				want.Lsh(want, uint(power))
			} else {
				want.Mul(want, new(big.Int).Exp(big.NewInt(5), big.NewInt(int64(-power)), nil))
			}
			if text(d.digits) != want.String() || d.power != min(power, 0) {
				t.Errorf("FromBinary(%d, %d) = %s, %d", factor, power, text(d.digits), d.power)
			}
			if d.FirstPower() != len(want.String())-1+d.power {
				t.Errorf("FromBinary(%d, %d): first power %d", factor, power, d.FirstPower())
			}
		}
	}
}

func TestRounded(t *testing.T) {
	for _, k := range []struct {
		digits    string
		power     int
		step      int
		even, cut string
		up        string
		awayCuts  bool
	}{
		{"125", -2, -3, "1250", "1250", "1250", true}, {"125", -2, -2, "125", "125", "125", true}, {"125", -2, -1, "12", "12", "13", false}, {"135", -2, -1, "14", "13", "14", false}, {"125", -2, 0, "1", "1", "2", true}, {"125", -2, 1, "", "", "1", true}, {"125", -2, 2, "", "", "1", true}, {"125", -2, 99, "", "", "1", true},
		{"5", 0, 1, "", "", "1", false}, {"50", 0, 2, "", "", "1", false}, {"51", 0, 2, "1", "", "1", false}, {"49", 0, 2, "", "", "1", true}, {"5", 0, 2, "", "", "1", true}, {"9", 0, 2, "", "", "1", true},
		{"95", 0, 1, "10", "9", "10", false}, {"99", 0, 1, "10", "9", "10", false}, {"99", 0, 2, "1", "", "1", false}, {"1999", 0, 1, "200", "199", "200", false}, {"1995", 0, 1, "200", "199", "200", false}, {"1989", 0, 1, "199", "198", "199", false}, {"1994", 0, 1, "199", "199", "200", true},
		{"1200", 0, 2, "12", "12", "12", true}, {"1201", 0, 2, "12", "12", "13", true}, {"1250", 0, 2, "12", "12", "13", false}, {"12501", 0, 3, "13", "12", "13", false}, {"12499", 0, 3, "12", "12", "13", true}, {"1050", 0, 2, "10", "10", "11", false}, {"1001", 0, 3, "1", "1", "2", true},
	} {
		digits := []int{}
		for _, b := range k.digits {
			digits = append(digits, int(b-'0'))
		}
		away := k.up
		if k.awayCuts {
			away = k.cut
		}
		for mode, want := range []string{k.even, away, k.cut, k.up, k.cut} {
			d := &Decimal{digits, k.power}
			if got := text(d.Rounded(k.step, mode, false)); got != want {
				t.Errorf("%se%d in steps of %d by mode %d = %q, want %q", k.digits, k.power, k.step, mode, got, want)
			}
			// Below 0 up and down change places.
			other := []int{api.Even, api.Away, api.Cut, api.Down, api.Up}[mode]
			if got := text(d.Rounded(k.step, other, true)); got != want {
				t.Errorf("-%se%d in steps of %d by mode %d = %q, want %q", k.digits, k.power, k.step, other, got, want)
			}
			if text(d.digits) != k.digits {
				t.Errorf("Rounded changed %s to %s", k.digits, text(d.digits))
			}
		}
	}
}

func TestNext(t *testing.T) {
	for _, digits := range []string{"", "1", "9", "10", "19", "99", "109", "199", "989", "999", strings.Repeat("9", 40)} {
		list := []int{}
		for _, b := range digits {
			list = append(list, int(b-'0'))
		}
		want, _ := new(big.Int).SetString("0"+digits, 10)
		want.Add(want, big.NewInt(1))
		if got := text(next(list)); got != want.String() {
			t.Errorf("next(%s) = %s", digits, got)
		}
	}
}

func digitsOf(text string) []int {
	list := []int{}
	for _, b := range text {
		list = append(list, int(b-'0'))
	}
	return list
}

func TestDigits(t *testing.T) {
	for _, digits := range []string{"1", "10", "9876543210", "125"} {
		for _, power := range []int{-5, 0, 7} {
			d := &Decimal{digitsOf(digits), power}
			list := d.Digits()
			if text(list) != digits || d.LastPower() != power || d.FirstPower() != power+len(digits)-1 {
				t.Errorf("%se%d: %s, %d, %d", digits, power, text(list), d.LastPower(), d.FirstPower())
			}
			list[0] = 7
			if text(d.digits) != digits {
				t.Errorf("%s shares memory with its digits", digits)
			}
		}
	}
}

func TestCompare(t *testing.T) {
	// From the least to the greatest; those in one row are the same.
	rows := [][]Decimal{
		{{digitsOf("1"), -400}, {digitsOf("100"), -402}},
		{{digitsOf("9"), -2}},
		{{digitsOf("1"), -1}, {digitsOf("10"), -2}},
		{{digitsOf("1001"), -4}},
		{{digitsOf("5"), 0}, {digitsOf("50"), -1}, {digitsOf("50000"), -4}},
		{{digitsOf("500001"), -5}},
		{{digitsOf("51"), -1}},
		{{digitsOf("59"), -1}},
		{{digitsOf("6"), 0}},
		{{digitsOf("99999999999999999999"), -19}},
		{{digitsOf("1"), 1}, {digitsOf("10"), 0}, {digitsOf("100"), -1}},
		{{digitsOf("2"), 300}},
		{{digitsOf("1"), 301}},
	}
	for i, row := range rows {
		for j, other := range rows {
			want := min(max(i-j, -1), 1)
			for a := range row {
				for b := range other {
					if got := Compare(&row[a], &other[b]); got != want {
						t.Errorf("Compare(%v, %v) = %d, want %d", row[a], other[b], got, want)
					}
				}
			}
		}
	}
}

func TestNeighbour(t *testing.T) {
	for _, k := range []struct {
		digits              string
		power, step         int
		even, cut, up       string
		evenAt, cutAt, upAt int
	}{
		{"125", 0, 1, "12", "12", "13", 1, 1, 1},
		{"135", -2, -1, "14", "13", "14", -1, -1, -1},
		{"125", 0, 2, "1", "1", "2", 2, 2, 2},
		{"1996", 0, 1, "2", "199", "2", 3, 1, 3},
		{"9996", -4, -3, "1", "999", "1", 0, -3, 0},
		{"95", 0, 1, "1", "9", "1", 2, 1, 2},
		{"1004", 0, 1, "1", "1", "101", 3, 3, 1},
		{"1200", 3, 3, "12", "12", "12", 5, 5, 5},
		{"7", 5, 5, "7", "7", "7", 5, 5, 5},
		{"7", 5, 3, "7", "7", "7", 5, 5, 5},
	} {
		d := &Decimal{digitsOf(k.digits), k.power}
		for i, want := range []Decimal{{digitsOf(k.even), k.evenAt}, {digitsOf(k.cut), k.cutAt}, {digitsOf(k.up), k.upAt}} {
			mode := []int{api.Even, api.Cut, api.Up}[i]
			got := d.Neighbour(k.step, mode)
			if text(got.digits) != text(want.digits) || got.power != want.power {
				t.Errorf("Neighbour of %se%d in steps of %d by mode %d = %v, want %v", k.digits, k.power, k.step, mode, *got, want)
			}
		}
		if text(d.digits) != k.digits || d.power != k.power {
			t.Errorf("Neighbour changed %se%d to %v", k.digits, k.power, *d)
		}
	}
}

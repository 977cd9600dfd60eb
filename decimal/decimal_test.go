package decimal

import (
	"math/big"
	"strings"
	"testing"

	"figures/api"
)

func text(digits []int) string {
	t := ""
	for _, d := range digits {
		t += string(rune('0' + d))
	}
	return t
}

func TestFromBinary(t *testing.T) {
	for _, factor := range []int{1, 2, 3, 5, 10, 1000, 1<<24 - 1, 1<<53 - 1, 1 << 52} {
		for _, power := range []int{-1074, -100, -52, -1, 0, 1, 2, 30, 104, 971} {
			d := FromBinary(factor, power)
			want := big.NewInt(int64(factor))
			if power >= 0 {
				want.Lsh(want, uint(power))
			} else {
				want.Mul(want, new(big.Int).Exp(big.NewInt(5), big.NewInt(int64(-power)), nil))
			}
			if text(d.digits) != want.String() || d.power != min(power, 0) {
				t.Errorf("FromBinary(%d, %d) = %s, %d", factor, power, text(d.digits), d.power)
			}
			if d.FirstPower() != len(want.String())-1+d.power {
				t.Errorf("FromBinary(%d, %d): first power %d", factor, power, d.FirstPower())
			}
		}
	}
}

func TestRounded(t *testing.T) {
	for _, k := range []struct {
		digits    string
		power     int
		step      int
		even, cut string
		up        string
		awayCuts  bool
	}{
		{"125", -2, -3, "1250", "1250", "1250", true}, {"125", -2, -2, "125", "125", "125", true}, {"125", -2, -1, "12", "12", "13", false}, {"135", -2, -1, "14", "13", "14", false}, {"125", -2, 0, "1", "1", "2", true}, {"125", -2, 1, "", "", "1", true}, {"125", -2, 2, "", "", "1", true}, {"125", -2, 99, "", "", "1", true},
		{"5", 0, 1, "", "", "1", false}, {"50", 0, 2, "", "", "1", false}, {"51", 0, 2, "1", "", "1", false}, {"49", 0, 2, "", "", "1", true}, {"5", 0, 2, "", "", "1", true}, {"9", 0, 2, "", "", "1", true},
		{"95", 0, 1, "10", "9", "10", false}, {"99", 0, 1, "10", "9", "10", false}, {"99", 0, 2, "1", "", "1", false}, {"1999", 0, 1, "200", "199", "200", false}, {"1995", 0, 1, "200", "199", "200", false}, {"1989", 0, 1, "199", "198", "199", false}, {"1994", 0, 1, "199", "199", "200", true},
		{"1200", 0, 2, "12", "12", "12", true}, {"1201", 0, 2, "12", "12", "13", true}, {"1250", 0, 2, "12", "12", "13", false}, {"12501", 0, 3, "13", "12", "13", false}, {"12499", 0, 3, "12", "12", "13", true}, {"1050", 0, 2, "10", "10", "11", false}, {"1001", 0, 3, "1", "1", "2", true},
	} {
		digits := []int{}
		for _, b := range k.digits {
			digits = append(digits, int(b-'0'))
		}
		away := k.up
		if k.awayCuts {
			away = k.cut
		}
		for mode, want := range []string{k.even, away, k.cut, k.up, k.cut} {
			d := &Decimal{digits, k.power}
			if got := text(d.Rounded(k.step, mode, false)); got != want {
				t.Errorf("%se%d in steps of %d by mode %d = %q, want %q", k.digits, k.power, k.step, mode, got, want)
			}
			// Below 0 up and down change places.
			other := []int{api.Even, api.Away, api.Cut, api.Down, api.Up}[mode]
			if got := text(d.Rounded(k.step, other, true)); got != want {
				t.Errorf("-%se%d in steps of %d by mode %d = %q, want %q", k.digits, k.power, k.step, other, got, want)
			}
			if text(d.digits) != k.digits {
				t.Errorf("Rounded changed %s to %s", k.digits, text(d.digits))
			}
		}
	}
}

func TestNext(t *testing.T) {
	for _, digits := range []string{"", "1", "9", "10", "19", "99", "109", "199", "989", "999", strings.Repeat("9", 40)} {
		list := []int{}
		for _, b := range digits {
			list = append(list, int(b-'0'))
		}
		want, _ := new(big.Int).SetString("0"+digits, 10)
		want.Add(want, big.NewInt(1))
		if got := text(next(list)); got != want.String() {
			t.Errorf("next(%s) = %s", digits, got)
		}
	}
}

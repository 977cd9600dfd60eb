package figures_test

import (
	"math"
	"regexp"
	"strings"
	"testing"

	"figures/api"
	"figures/figures"
)

// P3, word by word.
var isNumber = regexp.MustCompile(`\A[+-]?(([0-9]+(\.[0-9]*)?|\.[0-9]+)(e[+-]?[0-9]+)?|0x[0-9a-f]+(\.[0-9a-f]*)?p[+-]?[0-9]+|inf|infinity|nan)\z`)

// Whatever can begin a number becomes one with one of these behind it.
var endings = []string{"", "0", "p0", "0p0", "inf", "nf", "f", "inity", "nity", "ity", "ty", "y", "nan", "an", "n"}

func canBegin(text string) bool {
	for _, ending := range endings {
		if isNumber.MatchString(text + ending) {
			return true
		}
	}
	return false
}

// place is AT as P4 words it: how many bytes from the beginning can begin a number.
func place(text string) int {
	for n := len(text); n > 0; n-- {
		if canBegin(text[:n]) {
			return n
		}
	}
	return 0
}

func checkText(t *testing.T, c *figures.Conv, text string) {
	t.Helper()
	_, _, at, e := c.Parse(text, api.Double, api.Even)
	if isNumber.MatchString(text) {
		if e != api.OK || at != 0 {
			t.Errorf("P3: Parse(%q) = place %d, error %d, but it is a number", text, at, e)
		}
		return
	}
	if want := place(text); e != api.ErrSyntax || at != want {
		t.Errorf("P4: Parse(%q) = place %d, error %d, want %d, %d", text, at, e, want, api.ErrSyntax)
	}
}

// All short texts of the bytes that numbers have, and of some that they do not.
func TestP3P4AllShortTexts(t *testing.T) {
	c := figures.New()
	var grow func(text string, alphabet string, left int)
	grow = func(text string, alphabet string, left int) {
		checkText(t, c, text)
		for i := 0; left > 0 && i < len(alphabet); i++ {
			grow(text+alphabet[i:i+1], alphabet, left-1)
		}
	}
	grow("", "+-.019axepinfty g\x00\xff", 3)
	grow("", "-.0ex", 6)
	grow("0x", "+.0afp", 5)
	grow("-0x1.", "-0gpe.", 4)
	grow("1", "+.0ep", 5)
	grow("inf", "inftyx", 3)
}

// Each byte in each place of texts that are numbers.
func TestP3P4OneByteOff(t *testing.T) {
	c := figures.New()
	for _, text := range []string{"infinity", "-infinity", "+nan", "inf", "12.34e+56", "-.5e-1", "0x1a.f0p-12", "+0xff.p+3", "7.", "0"} {
		for i := range text {
			checkText(t, c, text[:i])
			checkText(t, c, text[:i]+text[i+1:])
			for b := 0; b < 256; b++ {
				checkText(t, c, text[:i]+string([]byte{byte(b)})+text[i+1:])
				checkText(t, c, text[:i]+string([]byte{byte(b)})+text[i:])
			}
		}
		checkText(t, c, text+" ")
		checkText(t, c, text+"\x00")
	}
}

func TestP3Meaning(t *testing.T) {
	c := figures.New()
	for _, k := range []struct {
		text string
		bits int
	}{
		{"12", 0x4a00}, {"+12", 0x4a00}, {"-12", 0xca00}, {"12.", 0x4a00}, {"12.5", 0x4a40}, {".5", 0x3800}, {"-.5", 0xb800}, {"0.5", 0x3800}, {"00012.500", 0x4a40},
		{"1.25e1", 0x4a40}, {"1.25e+1", 0x4a40}, {"125e-1", 0x4a40}, {"125.e-1", 0x4a40}, {".125e2", 0x4a40}, {"1.25e0001", 0x4a40}, {"1.25e-0", 0x3d00}, {"1e00000000000000000000000000001", 0x4900},
		{"0xcp0", 0x4a00}, {"0xc.8p0", 0x4a40}, {"0xc.p0", 0x4a00}, {"0x0c.80p+0", 0x4a40}, {"0x19p-1", 0x4a40}, {"0x0.19p7", 0x4a40}, {"-0xap0", 0xc900}, {"0xfp0", 0x4b80}, {"0x10p0", 0x4c00}, {"0x1ep0", 0x4f80}, {"0x9p0", 0x4880}, {"0x1p010", 0x6400},
	} {
		wants(t, c, "P3", k.text, api.Half, api.Even, k.bits, 0)
	}
}

func TestP4ErrorOrder(t *testing.T) {
	c := figures.New()
	long := strings.Repeat("1", 901)
	longFault := strings.Repeat("x", 901)
	for _, text := range []string{"1", "x", "", long, longFault} {
		for _, bad := range []int{math.MinInt, -2, -1, 5, 6, 256, 1 << 32, math.MaxInt} {
			refuses(t, c, "P4", text, bad, api.Even, 0, api.ErrArg)
			refuses(t, c, "P4", text, api.Double, bad, 0, api.ErrArg)
			refuses(t, c, "P4", text, bad, bad, 0, api.ErrArg)
		}
		refuses(t, c, "P4", text, 3, api.Even, 0, api.ErrArg)
		refuses(t, c, "P4", text, 4, api.Down, 0, api.ErrArg)
	}
	for _, s := range shapes {
		for _, mode := range modes {
			refuses(t, c, "P4", long, formatOf(s), mode, 0, api.ErrLong)
			refuses(t, c, "P4", longFault, formatOf(s), mode, 0, api.ErrLong)
			refuses(t, c, "P4", "1x", formatOf(s), mode, 1, api.ErrSyntax)
		}
	}
}

func TestP4Length(t *testing.T) {
	c := figures.New()
	ones := strings.Repeat("1", 899)
	wants(t, c, "P4", ones+"1", api.Half, api.Even, 0x7c00, 3)
	wants(t, c, "P4", strings.Repeat("0", 899)+"7", api.Half, api.Even, 0x4700, 0)
	wants(t, c, "P4", "7."+strings.Repeat("0", 898), api.Half, api.Even, 0x4700, 0)
	refuses(t, c, "P4", ones+"11", api.Half, api.Even, 0, api.ErrLong)
	refuses(t, c, "P4", strings.Repeat("0", 900)+"7", api.Half, api.Even, 0, api.ErrLong)
	refuses(t, c, "P4", ones+"x", api.Half, api.Even, 899, api.ErrSyntax)
	refuses(t, c, "P4", ones+"e", api.Half, api.Even, 900, api.ErrSyntax)
	refuses(t, c, "P4", ones+"ex", api.Half, api.Even, 0, api.ErrLong)
	refuses(t, c, "P4", "0x"+strings.Repeat("f", 898), api.Half, api.Even, 900, api.ErrSyntax)
	refuses(t, c, "P4", "1e+"+strings.Repeat("9", 896)+".", api.Half, api.Even, 899, api.ErrSyntax)
}

func TestP4Places(t *testing.T) {
	c := figures.New()
	for _, k := range []struct {
		text string
		at   int
	}{
		{"-", 1}, {"+-1", 1}, {"i", 1}, {"-in", 3}, {"infinit", 7}, {"infinityy", 8}, {"infinf", 5}, {"infx", 3}, {"nan0", 3}, {"-nann", 4}, {"Inf", 0}, {"NaN", 0}, {"iNf", 1},
		{" 1", 0}, {"1 ", 1}, {"..", 1}, {"1..", 2}, {".1.", 2}, {"e1", 0}, {".e", 1}, {"1e5.", 3}, {"1e5e", 3}, {"1e--5", 3}, {"1ee", 2}, {"1p1", 1}, {"1.a", 2}, {"1a", 1}, {"00x1p0", 2}, {"10x1p0", 2},
		{"0X1p0", 1}, {"0x1P0", 3}, {"0xA", 2}, {"0xg", 2}, {"0x1.", 4}, {"0x1.8", 5}, {"0x1.8.", 5}, {"0x1e5", 5}, {"0x1e+5", 4}, {"0xp0", 2}, {"0x-1p0", 2}, {"0x1p+", 5}, {"0x1p+-", 5}, {"0x1pa", 4}, {"0x1p1a", 5}, {"0x1p1.", 5}, {"-0x", 3}, {"0x0x", 3}, {"1\x00", 1}, {"\xff", 0}, {"1e5\xc3", 3},
	} {
		refuses(t, c, "P4", k.text, api.Single, api.Up, k.at, api.ErrSyntax)
	}
}

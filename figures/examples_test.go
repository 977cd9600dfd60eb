package figures_test

import (
	"testing"

	"figures/api"
	"figures/figures"
)

// The document's table: text, format, mode, pattern, flags, what Short writes
// of the pattern (if the table says it).
var examples = []struct {
	text                      string
	format, mode, bits, flags int
	short                     string
}{
	{"1", api.Half, 0, 0x3c00, 0, "1e0"},
	{"65504", api.Half, 0, 0x7bff, 0, "6.55e4"},
	{"65519.999", api.Half, 0, 0x7bff, 1, ""},
	{"65520", api.Half, 0, 0x7c00, 3, "inf"},
	{"65520", api.Half, 2, 0x7bff, 1, ""},
	{"65536", api.Half, 2, 0x7bff, 3, ""},
	{"65504.1", api.Half, 3, 0x7c00, 3, ""},
	{"-65504.1", api.Half, 3, 0xfbff, 1, ""},
	{"5.9604644775390625e-8", api.Half, 0, 1, 0, "6e-8"},
	{"2.98023223876953125e-8", api.Half, 0, 0, 5, ""},
	{"2.98023223876953125e-8", api.Half, 1, 1, 5, ""},
	{"1e-99999999999999999999", api.Half, 3, 1, 5, ""},
	{"-1e-500", api.Half, 3, 0x8000, 5, ""},
	{"-1e-500", api.Half, 4, 0x8001, 5, ""},
	{"1e99999999999999999999", api.Half, 4, 0x7bff, 3, ""},
	{"3.4028235e38", api.Single, 0, 0x7f7fffff, 1, "3.4028235e38"},
	{"1.17549435e-38", api.Single, 0, 0x800000, 5, "1.1754944e-38"},
	{"16777217", api.Single, 0, 0x4b800000, 1, ""},
	{"16777217", api.Single, 1, 0x4b800001, 1, ""},
	{"0.1", api.Single, 0, 0x3dcccccd, 1, "1e-1"},
	{"1e23", api.Double, 0, 0x44b52d02c7e14af6, 1, "1e23"},
	{"5e-324", api.Double, 0, 1, 5, "5e-324"},
	{"2.2250738585072011e-308", api.Double, 0, 0x000fffffffffffff, 5, "2.225073858507201e-308"},
	{"9007199254740993", api.Double, 0, 0x4340000000000000, 1, ""},
	{"9007199254740993", api.Double, 1, 0x4340000000000001, 1, ""},
	{"1.7976931348623159e308", api.Double, 0, 0x7ff0000000000000, 3, "inf"},
	{"2.4703282292062327e-324", api.Double, 0, 0, 5, ""},
	{"2.4703282292062328e-324", api.Double, 0, 1, 5, ""},
	{"0x1.8p1", api.Double, 0, 0x4008000000000000, 0, "3e0"},
	{"0x1.fffffffffffff8p0", api.Double, 0, 0x4000000000000000, 1, "2e0"},
}

// The document's texts that are none, and AT.
var faults = []struct {
	text string
	at   int
}{
	{"", 0}, {"+", 1}, {".", 1}, {"1e", 2}, {"1e+", 3}, {"0x", 2}, {"0x1", 3}, {"0x1p", 4},
	{"infi", 4}, {"nam", 2}, {"1.2.3", 3}, {"--1", 1}, {"0x.8p1", 2}, {"1e5x", 3}, {"1E5", 1}, {"-.e1", 2},
}

// wants asks Parse for a text that is a number.
func wants(t *testing.T, c *figures.Conv, promise string, text string, format, mode, bits, flags int) {
	t.Helper()
	b, g, at, e := c.Parse(text, format, mode)
	if b != bits || g != flags || at != 0 || e != api.OK {
		t.Errorf("%s: Parse(%.60q, %d, %d) = %x, %d, %d, %d, want %x, %d, 0, 0", promise, text, format, mode, b, g, at, e, bits, flags)
	}
}

// refuses asks Parse for what it answers with an error.
func refuses(t *testing.T, c *figures.Conv, promise string, text string, format, mode, place int, errno api.Errno) {
	t.Helper()
	b, g, at, e := c.Parse(text, format, mode)
	if b != 0 || g != 0 || at != place || e != errno {
		t.Errorf("%s: Parse(%.60q, %d, %d) = %x, %d, %d, %d, want 0, 0, %d, %d", promise, text, format, mode, b, g, at, e, place, errno)
	}
}

func TestExamples(t *testing.T) {
	c := figures.New()
	for _, k := range examples {
		wants(t, c, "Examples", k.text, k.format, k.mode, k.bits, k.flags)
		if k.short != "" {
			writes(t, c, "Examples", k.bits, k.format, api.Short, -1, 0, k.short)
		}
	}
	for _, k := range faults {
		refuses(t, c, "Examples", k.text, api.Double, api.Even, k.at, api.ErrSyntax)
	}
}

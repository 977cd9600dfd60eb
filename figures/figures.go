// Package figures: numbers of three binary formats as texts, texts as numbers: see DOC.md.
package figures

import (
	"figures/api"
	"figures/pattern"
	"figures/scan"
)

// Conv is a converter: what it works out once.
type Conv struct{}

// New makes a converter.
func New() *Conv { return &Conv{} }

// Parse reads a text as a number: its pattern, the flags; where a text is none (P4 to P7).
func (c *Conv) Parse(s string, format int, mode int) (int, int, int, api.Errno) {
	if !isFormat(format) || !isMode(mode) {
		return 0, 0, 0, api.ErrArg
	}
	if len(s) > api.MaxText {
		return 0, 0, 0, api.ErrLong
	}
	number, at, ok := scan.Read(s)
	if !ok {
		return 0, 0, at, api.ErrSyntax
	}
	layout := pattern.Of(format)
	bits, flags := patternOf(number, layout, mode)
	return bits, flags, 0, api.OK
}

// Format writes a number as a text (P8 to P13).
func (c *Conv) Format(bits int, format int, verb int, prec int, mode int) (string, api.Errno) {
	if !isFormat(format) {
		return "", api.ErrArg
	}
	layout := pattern.Of(format)
	s := style{verb: verb, prec: prec, mode: mode}
	if !layout.Has(bits) || !s.isAllowed() {
		return "", api.ErrArg
	}
	return textOf(bits, layout, s), api.OK
}

func isFormat(format int) bool {
	return format >= api.Half && format <= api.Double
}

func isMode(mode int) bool {
	return mode >= api.Even && mode <= api.Down
}

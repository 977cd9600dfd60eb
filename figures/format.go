package figures

import (
	"figures/api"
	"figures/decimal"
	"figures/pattern"
	"figures/shortest"
	"figures/write"
)

// style is how Format is asked to write.
type style struct {
	verb int
	prec int
	mode int
}

// isAllowed tells whether the verb goes with such a precision and mode.
func (s style) isAllowed() bool {
	switch s.verb {
	case api.Short, api.Plain, api.Hex:
		return s.prec == -1 && s.mode == api.Even
	case api.Exp, api.Fix:
		return s.prec >= 0 && s.prec <= api.MaxPrec && isMode(s.mode)
	}
	return false
}

// textOf is the text of a pattern (P8).
func textOf(bits int, layout pattern.Layout, s style) string {
	amount, negative := layout.Split(bits)
	if amount > layout.Infinity {
		return "nan"
	}
	text := "inf"
	if amount < layout.Infinity {
		text = numberText(amount, layout, negative, s)
	}
	if negative {
		return "-" + text
	}
	return text
}

// numberText is the text, without a sign, of a finite amount.
func numberText(amount int, layout pattern.Layout, negative bool, s style) string {
	factor, power := layout.Number(amount)
	switch s.verb {
	case api.Short, api.Plain:
		return shortestText(amount, layout, s.verb)
	case api.Exp:
		return expText(factor, power, negative, s)
	case api.Fix:
		return fixText(factor, power, negative, s)
	}
	return write.Hex(factor, power)
}

// shortestText is what Short and Plain write.
func shortestText(amount int, layout pattern.Layout, verb int) string {
	if amount == 0 {
		return "0"
	}
	span := layout.Span(amount)
	found := shortest.Within(span)
	digits := found.Digits()
	if verb == api.Plain {
		last := found.LastPower()
		return write.Fix(digits, -last)
	}
	first := found.FirstPower()
	return write.Exp(digits, first)
}

func expText(factor int, power int, negative bool, s style) string {
	count := s.prec + 1
	if factor == 0 {
		return write.Exp(noughts(count), 0)
	}
	exact := decimal.FromBinary(factor, power)
	last := exact.FirstPower() - s.prec
	digits := exact.Rounded(last, s.mode, negative)
	first := last + len(digits) - 1
	// Rounded to the next power of ten there is a nought too many.
	if len(digits) > count {
		digits = digits[:count]
	}
	return write.Exp(digits, first)
}

func fixText(factor int, power int, negative bool, s style) string {
	if factor == 0 {
		return write.Fix(noughts(0), s.prec)
	}
	exact := decimal.FromBinary(factor, power)
	digits := exact.Rounded(-s.prec, s.mode, negative)
	return write.Fix(digits, s.prec)
}

func noughts(count int) []int {
	list := []int{}
	for i := 0; i < count; i++ {
		list = append(list, 0)
	}
	return list
}

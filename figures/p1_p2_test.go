package figures_test

import (
	"math"
	"strings"
	"testing"

	"figures/api"
	"figures/figures"
)

var oddInts = []int{math.MinInt, math.MinInt + 1, -1 << 32, -2, -1, 0, 1, 2, 3, 4, 5, 6, 1 << 31, 1 << 32, 1<<32 + 1, math.MaxInt}

func oddTexts() []string {
	texts := []string{"", "\x00", "\xff\xfe", "1\x00", "é", "1é", "٣", "１", "−1", " 1", "1 ", "1\n", "\t", "+-1", "1_000", "0x1_0p0", "1,5", "0b1", "0o7", "$", "1e1e1", "0x1p1p1", "infinf", "nannan", "-nan", "-", "+", "e", "p", "x", "0xp1"}
	for _, part := range []string{"0", "1", "9", ".", "e", "x", "+", "-", "a", "i", "n", "\xff"} {
		for _, count := range []int{2, 3, 449, 899, 900, 901, 5000, 1 << 20} {
			run := strings.Repeat(part, count)
			texts = append(texts, run, "1e"+run, "1e-"+run, "0x"+run, "0x1p-"+run, "0x1p"+run, "."+run, "-"+run+"e9")
		}
	}
	return texts
}

// Every call ends and none panics; beside an error all is 0 but the place of ErrSyntax.
func TestP1OddCalls(t *testing.T) {
	c := figures.New()
	for _, text := range oddTexts() {
		for _, s := range shapes {
			for _, mode := range modes {
				checkP1(t, c, text, formatOf(s), mode)
			}
		}
	}
	for _, format := range oddInts {
		for _, mode := range oddInts {
			for _, text := range []string{"", "1", "1e", "-1e-400", strings.Repeat("1", 901)} {
				checkP1(t, c, text, format, mode)
			}
		}
	}
}

func formatOf(s shape) int {
	for i := range shapes {
		if shapes[i] == s {
			return i
		}
	}
	return -1
}

func checkP1(t *testing.T, c *figures.Conv, text string, format, mode int) {
	t.Helper()
	bits, flags, at, e := c.Parse(text, format, mode)
	if e != api.OK && (bits != 0 || flags != 0) {
		t.Errorf("P1: Parse(%.40q, %d, %d) = %x, %d beside error %d", text, format, mode, bits, flags, e)
	}
	if e != api.ErrSyntax && at != 0 {
		t.Errorf("P1: Parse(%.40q, %d, %d) = place %d beside error %d", text, format, mode, at, e)
	}
	if at < 0 || at > len(text) {
		t.Errorf("P1: Parse(%.40q, %d, %d) = place %d", text, format, mode, at)
	}
	want := api.OK
	switch {
	case format < 0 || format > 2 || mode < 0 || mode > 4:
		want = api.ErrArg
	case len(text) > 900:
		want = api.ErrLong
	case !isNumber.MatchString(text):
		want = api.ErrSyntax
	}
	if e != want {
		t.Errorf("P1: Parse(%.40q, %d, %d) = error %d, want %d", text, format, mode, e, want)
	}
}

func TestP1OddFormats(t *testing.T) {
	c := figures.New()
	for _, bits := range append([]int{0x7c00, 0x7e00, 0xffff, 1 << 16, 0x7f800001, 1<<63 - 1<<52}, oddInts...) {
		for _, format := range oddInts {
			for _, verb := range oddInts {
				for _, prec := range []int{math.MinInt, -2, -1, 0, 1, 800, 801, math.MaxInt} {
					for _, mode := range oddInts {
						checkP1Format(t, c, bits, format, verb, prec, mode)
					}
				}
			}
		}
	}
}

func checkP1Format(t *testing.T, c *figures.Conv, bits, format, verb, prec, mode int) {
	t.Helper()
	text, e := c.Format(bits, format, verb, prec, mode)
	if (e == api.OK) != (text != "") {
		t.Errorf("P1: Format(%#x, %d, %d, %d, %d) = %.40q beside error %d", bits, format, verb, prec, mode, text, e)
	}
	want := api.ErrArg
	right := format == 0 && bits>>16 == 0 || format == 1 && bits>>32 == 0 || format == 2
	switch verb {
	case api.Short, api.Plain, api.Hex:
		if right && prec == -1 && mode == 0 {
			want = api.OK
		}
	case api.Exp, api.Fix:
		if right && prec >= 0 && prec <= 800 && mode >= 0 && mode <= 4 {
			want = api.OK
		}
	}
	if e != want {
		t.Errorf("P1: Format(%#x, %d, %d, %d, %d) = error %d, want %d", bits, format, verb, prec, mode, e, want)
	}
}

// answer is all that Parse says.
type answer struct {
	bits, flags, at int
	e               api.Errno
}

func ask(c *figures.Conv, text string, format, mode int) answer {
	bits, flags, at, e := c.Parse(text, format, mode)
	return answer{bits, flags, at, e}
}

// A new converter, one that was called before (also with errors and with the
// calls in another order) and one that New did not make answer the same.
func TestP2SameAnswers(t *testing.T) {
	type call struct {
		text         string
		format, mode int
	}
	calls := []call{{"1", 7, 0}, {"1", 0, -1}, {strings.Repeat("1", 901), 1, 1}, {strings.Repeat("9", 900), 2, 0}, {"nan", 0, 0}, {"-inf", 2, 3}, {"-0", 1, 4}}
	for _, k := range examples {
		for _, mode := range modes {
			calls = append(calls, call{k.text, k.format, mode}, call{"-" + k.text, k.format, mode}, call{k.text, 2 - k.format, mode})
		}
	}
	for _, k := range faults {
		calls = append(calls, call{k.text, api.Single, api.Away})
	}
	used := figures.New()
	for round := 0; round < 3; round++ {
		for i := range calls {
			k := calls[i]
			if round == 1 {
				k = calls[len(calls)-1-i]
			}
			want := ask(figures.New(), k.text, k.format, k.mode)
			used.Format(i, api.Double, api.Exp, i%800, 0)
			used.Format(i, api.Double, i%2, -1, 0)
			if got := ask(used, k.text, k.format, k.mode); got != want {
				t.Errorf("P2: Parse(%.40q, %d, %d) = %v by a used converter, %v by a new one", k.text, k.format, k.mode, got, want)
			}
			if got := ask(&figures.Conv{}, k.text, k.format, k.mode); got != want {
				t.Errorf("P2: Parse(%.40q, %d, %d) = %v by a plain converter, %v by a new one", k.text, k.format, k.mode, got, want)
			}
		}
	}
}

// The same of Format, with calls of both kinds between.
func TestP2SameTexts(t *testing.T) {
	calls := [][5]int{{0, 3, 4, -1, 0}, {-1, 0, 4, -1, 0}, {0, 0, 2, 801, 0}, {0, 2, 9, 0, 0}}
	for format, s := range shapes {
		for _, a := range []int{0, 1, s.leastNormal() - 1, s.leastNormal(), s.bias()<<s.f + 3, s.infinity() - 1, s.infinity(), s.infinity() + 1} {
			for _, bits := range []int{a, s.signed(a, true)} {
				for _, mode := range modes {
					calls = append(calls, [5]int{bits, format, api.Exp, 3 * mode, mode}, [5]int{bits, format, api.Fix, 200 * mode, mode}, [5]int{bits, format, api.Hex, -1, 0})
				}
				calls = append(calls, [5]int{bits, format, api.Short, -1, 0}, [5]int{bits, format, api.Plain, -1, 0}, [5]int{bits, format, api.Short, 0, 0}, [5]int{bits, format, api.Plain, -1, 1})
			}
		}
	}
	used := figures.New()
	for round := 0; round < 3; round++ {
		for i := range calls {
			k := calls[i]
			if round == 1 {
				k = calls[len(calls)-1-i]
			}
			text, e := figures.New().Format(k[0], k[1], k[2], k[3], k[4])
			ask(used, examples[i%len(examples)].text, i%4, i%5)
			if got, errno := used.Format(k[0], k[1], k[2], k[3], k[4]); got != text || errno != e {
				t.Errorf("P2: Format(%v) = %.40q, %d by a used converter, %.40q, %d by a new one", k, got, errno, text, e)
			}
			plain := &figures.Conv{}
			if got, errno := plain.Format(k[0], k[1], k[2], k[3], k[4]); got != text || errno != e {
				t.Errorf("P2: Format(%v) = %.40q, %d by a plain converter, %.40q, %d by a new one", k, got, errno, text, e)
			}
		}
	}
}

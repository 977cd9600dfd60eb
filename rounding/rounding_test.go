package rounding

import (
	"testing"

	"figures/api"
)

func TestToUpper(t *testing.T) {
	for _, k := range []struct {
		mode           int
		negative, odd  bool
		less, tie, top bool
	}{
		{api.Even, false, false, false, false, true},
		{api.Even, false, true, false, true, true},
		{api.Even, true, false, false, false, true},
		{api.Even, true, true, false, true, true},
		{api.Away, false, false, false, true, true},
		{api.Away, false, true, false, true, true},
		{api.Away, true, false, false, true, true},
		{api.Away, true, true, false, true, true},
		{api.Cut, false, false, false, false, false},
		{api.Cut, true, true, false, false, false},
		{api.Up, false, false, true, true, true},
		{api.Up, true, true, false, false, false},
		{api.Down, false, true, false, false, false},
		{api.Down, true, false, true, true, true},
	} {
		for rest, want := range []bool{false, k.less, k.tie, k.top} {
			if got := ToUpper(k.mode, k.negative, k.odd, rest); got != want {
				t.Errorf("ToUpper(%d, %v, %v, %d) = %v", k.mode, k.negative, k.odd, rest, got)
			}
		}
	}
}

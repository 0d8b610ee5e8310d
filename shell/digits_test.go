package shell

import (
	"slices"
	"testing"
)

// TestDigits looks from within: of the fates of a crash only the first one is seen in answers, as the desk has what matters under way alone.
func TestDigits(t *testing.T) {
	for n, want := range map[int][]byte{
		0:         {},
		1:         {1},
		3:         {3},
		4:         {0, 1},
		7:         {3, 1},
		27:        {3, 2, 1},
		228:       {0, 1, 2, 3},
		1 << 20:   {0, 0, 0, 0, 0, 0, 0, 0, 0, 0, 1},
		268435456: {0, 0, 0, 0, 0, 0, 0, 0, 0, 0, 0, 0, 0, 0, 1},
		999999999: {3, 3, 3, 3, 1, 2, 0, 3, 2, 2, 1, 2, 3, 2, 3},
	} {
		all := make([]byte, 64)
		copy(all, want)
		if got := digits(n); !slices.Equal(got, all) {
			t.Errorf("%d: %v, want %v", n, got, all)
		}
	}
}

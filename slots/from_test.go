package slots

import (
	"slices"
	"strconv"
	"testing"

	"skald/api"
)

// A loop over the slots begins where it is told to, goes on as long as it is not left, and can be made again.
func TestFrom(t *testing.T) {
	at := []int{2, 3, 7, 4094, 4095}
	l := New()
	for _, slot := range at {
		if e := l.Put(slot, strconv.Itoa(slot)); e != api.OK {
			t.Fatalf("Put(%d): %d", slot, e)
		}
	}
	for _, first := range []int{0, 1, 2, 3, 4, 7, 8, 4094, 4095, 4096} {
		var want []int
		for _, slot := range at {
			if slot >= first {
				want = append(want, slot)
			}
		}
		values := l.from(first)
		for most := 1; most <= len(at)+1; most++ {
			for range 2 {
				var got []int
				for slot, value := range values {
					if value != strconv.Itoa(slot) {
						t.Errorf("from %d on: %q at %d", first, value, slot)
					}
					got = append(got, slot)
					if len(got) == most {
						break
					}
				}
				if !slices.Equal(got, want[:min(most, len(want))]) {
					t.Errorf("from %d on, at most %d: %v", first, most, got)
				}
			}
		}
	}
}

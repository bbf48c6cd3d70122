package disk

import (
	"slices"
	"testing"

	"skald/api"
)

// A loop over the contents goes on as long as it is not left, and can be made again.
func TestContents(t *testing.T) {
	want := []string{"a", "", "bc", "d"}
	d := New()
	for _, content := range want {
		if e := d.Append([]byte(content)); e != api.OK {
			t.Fatalf("Append(%q): %d", content, e)
		}
	}
	contents := d.contents()
	for most := 1; most <= len(want)+1; most++ {
		for range 2 {
			var got []string
			for content := range contents {
				got = append(got, string(content))
				if len(got) == most {
					break
				}
			}
			if !slices.Equal(got, want[:min(most, len(want))]) {
				t.Errorf("at most %d: %q", most, got)
			}
		}
	}
}

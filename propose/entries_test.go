package propose

import (
	"testing"

	"skald/api"
)

// A loop over the entries that is left does not go on: in no list, and behind none.
func TestEntriesLeft(t *testing.T) {
	p, e := New(3, api.Ballot{Round: 1}, 0)
	if e != api.OK {
		t.Fatal(e)
	}
	for node := range 3 {
		var l []api.Entry
		for slot := range 3 {
			l = append(l, api.Entry{Slot: slot, B: api.Ballot{Round: 1 + node}})
		}
		if _, e := p.Add(node, l, 0); e != api.OK {
			t.Fatal(e)
		}
	}
	for begin := range 4 {
		for most := 1; most <= 9; most++ {
			seen := 0
			for x := range p.entries(begin) {
				if x.Slot < begin {
					t.Errorf("from %d on: slot %d", begin, x.Slot)
				}
				seen++
				if seen == most {
					break
				}
			}
			if seen != min(most, 3*(3-begin)) {
				t.Errorf("from %d on, up to %d: %d", begin, most, seen)
			}
		}
	}
}

package stable

import (
	"testing"

	"skald/wire"
)

// stops reports whether reading a part stops with a panic.
func stops(read func()) (stopped bool) {
	defer func() { stopped = recover() != nil }()
	read()
	return false
}

// Reading stops at the part that is wrong, and not only when the next one is asked for, or the end.
func TestReaderStops(t *testing.T) {
	for i, x := range []struct {
		b            string
		number, text bool // whether there is one
	}{
		{"", false, false},
		{"\x00", true, true},
		{"\x01", true, false},
		{"\x01a", true, true},
		{"\x02a", true, false},
		{"\x80", false, false},
		{"\x80\x00", false, false},
		{"\x00\x80", true, true},
		{"\xff\xff\xff\xff\xff\xff\xff\xff\xff\x02", false, false},
	} {
		if got := !stops(func() { reader{wire.Read([]byte(x.b))}.number() }); got != x.number {
			t.Errorf("%d: a number: %t", i, got)
		}
		if got := !stops(func() { reader{wire.Read([]byte(x.b))}.text() }); got != x.text {
			t.Errorf("%d: a text: %t", i, got)
		}
	}
}

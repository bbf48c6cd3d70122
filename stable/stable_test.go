package stable_test

import (
	"math"
	"math/rand"
	"slices"
	"strings"
	"testing"

	"skald/accept"
	"skald/api"
	"skald/disk"
	"skald/slots"
	"skald/stable"
)

// Numbers in and around what is allowed, where the bytes of numbers become more, and far away.
var (
	rounds = []int{math.MinInt, -1 << 32, -1, 0, 1, 2, 5, 127, 128, 16_383, 16_384, 1<<21 - 1, 1 << 21, 1<<28 - 1, 1 << 28, lastRound - 1, lastRound, lastRound + 1, 1 << 32, 1<<32 + 1, math.MaxInt}
	nodes  = []int{math.MinInt, -1 << 32, -7, -1, 0, 1, 2, 3, 5, 6, 7, 8, 63, 64, 127, 128, 1 << 32, 1<<32 + 1, math.MaxInt}
	places = []int{math.MinInt, -1 << 32, -4096, -1, 0, 1, 2, 127, 128, 300, 2048, 4094, 4095, 4096, 4097, 1 << 32, 1<<32 + 1, math.MaxInt}
	values = []string{"", "x", "ab", "\x00", "\xff\xfe", "äöü", "\x01\x05\x02", strings.Repeat("v", 127), strings.Repeat("v", 128), strings.Repeat("v", 16_384)}
)

// longest is a text from which values are cut.
var longest = strings.Repeat("v", maxText+10)

// wanted returns a record and an error, as P17.1 names them.
func wanted(s said) (string, api.Errno) {
	if s.kind != 3 && !isGood(s.b, mostNodes) || s.slot < 0 || s.slot > lastSlot {
		return "", api.ErrArg
	}
	if record := s.record(); len(record) <= maxText {
		return record, api.OK
	}
	return "", api.ErrLong
}

// expectMake checks the record that is made, and that it is read as what was written.
func expectMake(t *testing.T, s said) {
	t.Helper()
	want, wantE := wanted(s)
	record, e := s.make()
	if string(record) != want || e != wantE {
		t.Fatalf("%v: %.20q(%d), %d; want %.20q(%d), %d", s, record, len(record), e, want, len(want), wantE)
	}
	if e == api.OK {
		expectParse(t, string(record))
	}
}

// expectParse checks what is read from bytes; if this is something, these bytes are its record.
func expectParse(t *testing.T, record string) {
	t.Helper()
	given := []byte(record)
	want, fine := parse(record)
	var got said
	var e api.Errno
	got.kind, got.b, got.slot, got.value, e = stable.Parse(given)
	switch {
	case got != want || fine != (e == api.OK) || !fine && e != api.ErrForm:
		t.Fatalf("Parse(%v(%d)): %v, %d; want %v, %t", given[:min(len(given), 50)], len(given), got, e, want, fine)
	case string(given) != record:
		t.Fatalf("Parse(%q) changed its argument", record)
	}
	if !fine {
		return
	}
	if again, e := got.make(); string(again) != record || e != api.OK {
		t.Fatalf("the record of %v: %.20q(%d), %d", got, again, len(again), e)
	}
}

// P17.1, P17.2, P17.5: the chapter's examples.
func TestExamples(t *testing.T) {
	b := bl(5, 2)
	records := []string{"\x01\x05\x02", "\x02\x05\x02\xac\x02\x02ab", "\x03\x00\x00"}
	d := disk.New()
	for i, s := range []said{promised(b), accepted(b, 300, "ab"), chosen(0, "")} {
		record, e := s.make()
		is(t, string(record), records[i])
		is(t, e, api.OK)
		is(t, stable.Write(d, record), api.OK)
	}
	for _, s := range []said{promised(zero), accepted(bl(1, 7), 0, "a"), chosen(4096, "a")} {
		record, e := s.make()
		is(t, string(record), "")
		is(t, e, api.ErrArg)
	}
	record, e := stable.Choose(0, longest[:maxText])
	is(t, string(record), "")
	is(t, e, api.ErrLong)
	kind, ballot, slot, value, e := stable.Parse([]byte{1, 5, 2})
	is(t, said{kind, ballot, slot, value}, promised(b))
	is(t, e, api.OK)
	for _, record := range []string{"\x01\x05", "\x03\x00\x00\x00", "\x04", "\x01\x00\x00"} {
		kind, ballot, slot, value, e := stable.Parse([]byte(record))
		is(t, said{kind, ballot, slot, value}, said{})
		is(t, e, api.ErrForm)
	}
	p := newPlain(3)
	for _, s := range []said{promised(b), accepted(b, 300, "ab"), chosen(0, "")} {
		is(t, p.do(s), true)
	}
	a, l := expectRecover(t, 3, d, p, true)
	is(t, stable.Compact(d, a, l), api.OK)
	snapshot := "\x05\x02\x00\x01\xac\x02\x05\x02\x02ab\x00\x01\x00\x00"
	expectDisk(t, d, &snapshot, nil)
	expectRecover(t, 3, d, p, true)
	expectRecover(t, 2, d, nil, false)
	_, _, e = stable.Recover(8, d)
	is(t, e, api.ErrArg)
}

// P17.1, P17.8: records of all kinds, with ballots, slots and values that are good, and ones that are not.
func TestMake(t *testing.T) {
	for _, round := range rounds {
		for _, node := range nodes {
			expectMake(t, promised(bl(round, node)))
			for _, place := range places {
				for _, value := range values {
					expectMake(t, accepted(bl(round, node), place, value))
				}
			}
		}
	}
	for _, place := range places {
		for _, value := range values {
			expectMake(t, chosen(place, value))
		}
	}
}

// P17.1: all slots, and those next to them.
func TestMakeSlots(t *testing.T) {
	for slot := -2; slot <= lastSlot+2; slot++ {
		expectMake(t, chosen(slot, "ab"))
		expectMake(t, accepted(bl(5, 2), slot, "ab"))
	}
}

// P17.1, P17.2, limits: values with which a record has MaxText bytes or one less, and ones with which it has more. A wrong
// ballot or slot is named before a length.
func TestMakeLong(t *testing.T) {
	for _, slot := range []int{0, 127, 128, lastSlot} {
		for _, b := range []api.Ballot{bl(1, 0), bl(127, 6), bl(128, 0), bl(1<<28, 3), bl(lastRound, mostNodes-1)} {
			room := maxText - len(accepted(b, slot, "").record())
			for size := room - 5; size <= room+3; size++ {
				expectMake(t, accepted(b, slot, longest[:size]))
			}
			expectMake(t, accepted(b, slot, longest[:maxText]))
			expectMake(t, accepted(b, slot, longest))
			expectMake(t, accepted(b, slot, longest[:maxText-12]))
			if record, e := stable.Accept(b, slot, longest[:maxText-12]); len(record) > maxText || e != api.OK {
				t.Errorf("a value of MaxText - 12 bytes at %d in %v: %d bytes, %d", slot, b, len(record), e)
			}
		}
		room := maxText - len(chosen(slot, "").record())
		for size := room - 5; size <= room+3; size++ {
			expectMake(t, chosen(slot, longest[:size]))
		}
		expectMake(t, chosen(slot, longest[:maxText]))
		expectMake(t, chosen(slot, longest))
	}
	for _, s := range []said{accepted(zero, 0, longest), accepted(bl(1, 7), 0, longest), accepted(bl(1, 0), -1, longest), accepted(bl(1, 0), 4096, longest), chosen(-1, longest), chosen(4096, longest)} {
		_, e := s.make()
		is(t, e, api.ErrArg)
		expectMake(t, s)
	}
}

// P17.1: a value that has far more bytes than a record may have.
func TestMakeHuge(t *testing.T) {
	huge := strings.Repeat("v", 1<<24)
	for _, s := range []said{accepted(bl(1, 0), 0, huge), chosen(0, huge)} {
		record, e := s.make()
		is(t, len(record), 0)
		is(t, e, api.ErrLong)
	}
}

// R4: a record is new memory.
func TestMakeNew(t *testing.T) {
	for _, s := range []said{promised(bl(5, 2)), accepted(bl(5, 2), 300, "ab"), chosen(300, "ab")} {
		first, e := s.make()
		ok(t, e)
		second, e := s.make()
		ok(t, e)
		for i := range first {
			first[i] = 0xee
		}
		is(t, string(second), s.record())
		expectMake(t, s)
	}
}

// P17.2, P17.8: all bytes up to three of them.
func TestParseShort(t *testing.T) {
	expectParse(t, "")
	for i := range 256 {
		expectParse(t, string([]byte{byte(i)}))
		for j := range 256 {
			expectParse(t, string([]byte{byte(i), byte(j)}))
		}
	}
	for _, kind := range []byte{0, 1, 2, 3, 4, 5, 127, 128, 129, 130, 131, 255} {
		for i := range 1 << 16 {
			expectParse(t, string([]byte{kind, byte(i >> 8), byte(i)}))
		}
	}
}

// P17.2, P17.8: all texts of up to six bytes from a few.
func TestParseFew(t *testing.T) {
	few := []byte{0, 1, 2, 3, 6, 7, 31, 32, 128, 255}
	var all func(left int, before string)
	all = func(left int, before string) {
		expectParse(t, before)
		if left == 0 {
			return
		}
		for _, x := range few {
			all(left-1, before+string([]byte{x}))
		}
	}
	for kind := range 5 {
		all(5, string([]byte{byte(kind)}))
	}
}

// P17.2, P17.8: records with each byte changed to each other one, cut at each place, and with bytes behind them.
func TestParseChanged(t *testing.T) {
	for _, s := range []said{
		promised(bl(5, 2)), promised(bl(lastRound, 6)), promised(bl(128, 0)),
		accepted(bl(5, 2), 300, "ab"), accepted(bl(lastRound, 6), lastSlot, ""), accepted(bl(1, 0), 0, "\x00"),
		chosen(0, ""), chosen(lastSlot, "xyz"), chosen(128, strings.Repeat("v", 128)),
	} {
		record := s.record()
		for i := range record {
			expectParse(t, record[:i])
			expectParse(t, record[i:])
			for x := range 256 {
				expectParse(t, record[:i]+string([]byte{byte(x)})+record[i+1:])
				expectParse(t, record[:i]+string([]byte{byte(x)})+record[i:])
			}
		}
		for x := range 256 {
			expectParse(t, record+string([]byte{byte(x)}))
		}
		for _, other := range []said{promised(bl(5, 2)), accepted(bl(5, 2), 300, "ab"), chosen(0, "")} {
			expectParse(t, record+other.record())
		}
	}
}

// P17.2: parts that no record has, also numbers that an int does not hold, or that become good ones if bits are lost.
func TestParseParts(t *testing.T) {
	ns := []uint64{0, 1, 2, 3, 4, 6, 7, 8, 127, 128, 4095, 4096, 4097, lastRound, lastRound + 1, 1 << 31, 1 << 32, 1<<32 + 1, 1<<32 + 2, 1<<32 + 3, 1<<63 - 1, 1 << 63, 1<<63 + 1, 1<<64 - 1}
	for _, kind := range ns {
		for _, x := range ns {
			for _, y := range ns {
				expectParse(t, number(kind)+number(x)+number(y))
				for _, z := range ns {
					expectParse(t, number(kind)+number(x)+number(y)+number(z)+text("ab"))
				}
			}
			expectParse(t, number(kind)+number(x)+text("ab"))
		}
		expectParse(t, number(3)+number(0)+number(kind)+"ab")
		expectParse(t, numbers(2, 5, 2, 300)+number(kind)+"ab")
	}
}

// P17.2, limits: bytes that would be records, if these could have more than MaxText bytes; and those that have just so many.
func TestParseLong(t *testing.T) {
	for size := maxText - 20; size <= maxText; size++ {
		expectParse(t, chosen(0, longest[:size]).record())
		expectParse(t, chosen(lastSlot, longest[:size]).record())
		expectParse(t, accepted(bl(lastRound, 6), lastSlot, longest[:size]).record())
	}
	expectParse(t, chosen(0, longest).record())
	expectParse(t, promised(bl(5, 2)).record()+strings.Repeat("\x00", maxText))
	expectParse(t, strings.Repeat("\x01", 1<<24))
	expectParse(t, strings.Repeat("\xff", 1<<24))
	_, _, _, _, e := stable.Parse([]byte(chosen(0, longest[:maxText-4]).record()))
	is(t, e, api.ErrForm) // 1 + 1 + 3 bytes, and these
	_, _, _, _, e = stable.Parse([]byte(chosen(0, longest[:maxText-5]).record()))
	is(t, e, api.OK)
}

// P17.3: whatever the bytes are, they are appended, and all that is there is safe.
func TestWrite(t *testing.T) {
	records := []string{"", "\x00", "\x01\x05\x02", "\x04", "no record", "\xff\xff\xff\xff", longest[:maxText-1], longest[:maxText]}
	d := disk.New()
	var l []string
	for _, record := range records {
		for _, unsafe := range []int{0, 1, 2} {
			for range unsafe {
				ok(t, d.Append([]byte("more")))
				l = append(l, "more")
			}
			is(t, stable.Write(d, []byte(record)), api.OK)
			l = append(l, record)
			is(t, d.Safe(), d.Len())
			expectDisk(t, d, nil, l)
			c := d.Copy()
			c.Tear(0)
			expectDisk(t, c, nil, l)
		}
	}
	is(t, stable.Write(d, nil), api.OK)
	expectDisk(t, d, nil, append(l, ""))
}

// P17.3: a disk with a snapshot keeps it.
func TestWriteSnapshot(t *testing.T) {
	for _, snapshot := range []string{"", "s", longest[:maxText]} {
		d := diskOf(t, &snapshot, nil)
		is(t, stable.Write(d, []byte("ab")), api.OK)
		expectDisk(t, d, &snapshot, []string{"ab"})
	}
}

// P17.3, R1: the errors of Append. With them nothing is written, and nothing becomes safe.
func TestWriteErrors(t *testing.T) {
	d := disk.New()
	ok(t, d.Append([]byte("a")))
	d.Sync()
	ok(t, d.Append([]byte("b")))
	for _, size := range []int{maxText + 1, maxText + 2, 1 << 24} {
		is(t, stable.Write(d, make([]byte, size)), api.ErrLong)
		is(t, d.Safe(), 9)
		expectDisk(t, d, nil, []string{"a", "b"})
	}
	for d.Append([]byte(longest[:maxText])) == api.OK {
	}
	size, safe, left := d.Len(), d.Safe(), 1<<24-d.Len()
	is(t, stable.Write(d, make([]byte, left-7)), api.ErrFull)
	is(t, stable.Write(d, make([]byte, maxText+1)), api.ErrLong)
	is(t, d.Len(), size)
	is(t, d.Safe(), safe)
	is(t, stable.Write(d, make([]byte, left-8)), api.OK)
	is(t, d.Len(), 1<<24)
	is(t, d.Safe(), 1<<24)
	is(t, stable.Write(d, nil), api.ErrFull)
	var none *disk.Disk
	for _, d := range []*disk.Disk{none, {}} {
		is(t, stable.Write(d, nil), api.ErrNil)
		is(t, stable.Write(d, []byte("a")), api.ErrNil)
		is(t, stable.Write(d, make([]byte, maxText+1)), api.ErrNil)
		is(t, d.Len(), 0)
	}
}

// R4: neither what was written nor its argument is changed by what becomes of the other one.
func TestWriteAlone(t *testing.T) {
	d := disk.New()
	record := []byte("abcdef")[:3]
	is(t, stable.Write(d, record), api.OK)
	is(t, string(record[:6]), "abcdef")
	record[0] = 'x'
	expectDisk(t, d, nil, []string{"abc"})
}

// state is what goes into an acceptor and a log, in this order.
type state struct {
	said  []said
	base  int // what the acceptor forgets
	start int // where the log jumps to, if this is not 0
	more  []said
}

// states are of acceptors and logs of many kinds. All have ballots of three nodes.
func states() []state {
	all := []state{
		{},
		{said: []said{promised(bl(5, 2))}},
		{said: []said{promised(bl(lastRound, 2))}},
		{said: []said{accepted(bl(5, 2), 300, "ab")}},
		{said: []said{accepted(bl(5, 2), 0, ""), promised(bl(5, 2))}},
		{said: []said{accepted(bl(5, 1), lastSlot, "z"), promised(bl(7, 0))}},
		{said: []said{chosen(0, "")}},
		{said: []said{chosen(lastSlot, "z")}},
		{said: []said{promised(bl(5, 2)), accepted(bl(5, 2), 300, "ab"), chosen(0, "")}},
		// ballots that become smaller from slot to slot, and ones that go up and down
		{said: []said{accepted(bl(1, 0), 9, "a"), accepted(bl(1, 1), 8, "b"), accepted(bl(2, 0), 7, "c"), accepted(bl(2, 0), 6, "d")}},
		{said: []said{accepted(bl(1, 2), 5, "a"), accepted(bl(2, 1), 3, "b"), accepted(bl(3, 0), 4, "c"), accepted(bl(3, 1), 5, "d"), promised(bl(3, 2))}},
		{said: []said{chosen(2, "c"), chosen(0, "a"), chosen(5, "f"), chosen(1, "b")}},
		{base: 1, start: 1},
		{base: 128, start: 0},
		{base: 0, start: 128},
		{base: 4096, start: 4096},
		{said: []said{accepted(bl(6, 0), 2, "gone"), chosen(0, "gone")}, base: 3, start: 4},
		{said: []said{accepted(bl(6, 0), 2, "gone"), accepted(bl(6, 1), 3, "a"), chosen(4, "b")}, base: 3, start: 4},
		{base: 4095, start: 4095, more: []said{accepted(bl(6, 0), lastSlot, "a"), chosen(lastSlot, "b")}},
		{base: 7, start: 9, more: []said{accepted(bl(6, 2), 7, "a"), accepted(bl(6, 2), 9, "c"), chosen(11, "b"), chosen(9, "d")}},
	}
	var full state
	for slot := range lastSlot + 1 {
		full.said = append(full.said, accepted(bl(1+slot/3, slot%3), lastSlot-slot, "x"), chosen(slot, "y"))
	}
	return append(all, full, state{said: []said{accepted(bl(1, 0), 0, strings.Repeat("v", 40_000)), chosen(0, strings.Repeat("w", 20_000))}})
}

// build returns an acceptor of n nodes and a log in a state, and what they have to be.
func build(t *testing.T, n int, s state) (*accept.Acceptor, *slots.Log, *plain) {
	t.Helper()
	a, e := accept.New(n)
	ok(t, e)
	l, p := slots.New(), newPlain(n)
	run := func(all []said) {
		for _, x := range all {
			var e api.Errno
			switch x.kind {
			case 1:
				_, e = a.Promise(x.b, 0)
			case 2:
				e = a.Accept(x.b, x.slot, x.value)
			default:
				e = l.Put(x.slot, x.value)
			}
			if fine := p.do(x); !fine || e != api.OK {
				t.Fatalf("%v: %d, %t", x, e, fine)
			}
		}
	}
	run(s.said)
	ok(t, a.Forget(s.base))
	if s.start > 0 {
		ok(t, l.Jump(s.start))
	}
	p.forget(s.base, s.start)
	run(s.more)
	return a, l, p
}

// forget sets the bases, and forgets what is below them.
func (p *plain) forget(base, start int) {
	p.base, p.start = base, start
	for slot := range p.entries {
		if slot < base {
			delete(p.entries, slot)
		}
	}
	for slot := range p.values {
		if slot < start {
			delete(p.values, slot)
		}
	}
}

// P17.4, P17.5, P17.7: the snapshot that Compact makes, which leads back to what it was made of, also with more nodes.
func TestCompact(t *testing.T) {
	for _, s := range states() {
		for _, n := range []int{3, 7} {
			a, l, p := build(t, n, s)
			snapshot := p.bytes()
			for _, before := range []string{"", "old"} {
				d := diskOf(t, &before, []string{"\x01\x05\x02", "no record"})
				ok(t, d.Append([]byte("not safe")))
				is(t, stable.Compact(d, a, l), api.OK)
				is(t, d.Len(), 0)
				expectDisk(t, d, &snapshot, nil)
				d.Tear(0)
				expectDisk(t, d, &snapshot, nil)
				expectRecover(t, n, d, p, true)
			}
			d := disk.New()
			is(t, stable.Compact(d, a, l), api.OK)
			expectDisk(t, d, &snapshot, nil)
			expectAcceptor(t, a, p)
			expectLog(t, l, p)
			more := p.copy()
			more.n = mostNodes
			expectRecover(t, mostNodes, d, more, true)
		}
	}
}

// P17.4, R4: a snapshot stays as it is, whatever becomes of the acceptor and the log it was made of, and of those that were
// made of it.
func TestCompactAlone(t *testing.T) {
	a, l, p := build(t, 3, states()[8])
	d := disk.New()
	is(t, stable.Compact(d, a, l), api.OK)
	snapshot := p.bytes()
	change := func(a *accept.Acceptor, l *slots.Log) {
		ok(t, a.Accept(bl(9, 1), 300, "new"))
		ok(t, l.Put(1, "new"))
		ok(t, a.Forget(301))
		ok(t, l.Forget(2))
	}
	change(a, l)
	expectDisk(t, d, &snapshot, nil)
	b, m := expectRecover(t, 3, d, p, true)
	change(b, m)
	expectDisk(t, d, &snapshot, nil)
	c, o := expectRecover(t, 3, d, p, true)
	c2, o2 := expectRecover(t, 3, d, p, true)
	change(c, o)
	expectAcceptor(t, c2, p)
	expectLog(t, o2, p)
	d.Tear(0)
	ok(t, d.Save(nil))
	expectAcceptor(t, c2, p)
	expectLog(t, o2, p)
}

// longState returns an acceptor and a log whose bytes are so many.
func longState(t *testing.T, size int) (*accept.Acceptor, *slots.Log, *plain) {
	t.Helper()
	half := state{said: []said{accepted(bl(1, 0), 0, longest[:size/2]), chosen(0, longest[:size/3])}}
	_, _, p := build(t, 3, half)
	missing := size - len(p.bytes())
	half.said[1] = chosen(0, longest[:size/3+missing])
	a, l, p := build(t, 3, half)
	is(t, len(p.bytes()), size)
	return a, l, p
}

// P17.4: bytes up to MaxText are a snapshot; with more, nothing has changed.
func TestCompactLong(t *testing.T) {
	for size := maxText - 3; size <= maxText+3; size++ {
		a, l, p := longState(t, size)
		before := "old"
		d := diskOf(t, &before, []string{"ab"})
		ok(t, d.Append([]byte("not safe")))
		if size <= maxText {
			is(t, stable.Compact(d, a, l), api.OK)
			snapshot := p.bytes()
			expectDisk(t, d, &snapshot, nil)
			expectRecover(t, 3, d, p, true)
			continue
		}
		is(t, stable.Compact(d, a, l), api.ErrLong)
		is(t, d.Safe(), 10)
		expectDisk(t, d, &before, []string{"ab", "not safe"})
	}
}

// P17.4: bytes become too many at any part: within the acceptor, or within the log.
func TestCompactLonger(t *testing.T) {
	var small []said
	for slot := range lastSlot + 1 {
		small = append(small, accepted(bl(1, 0), slot, "123456"), chosen(slot, "1234567"))
	}
	for i, l := range [][]said{
		{accepted(bl(1, 0), 0, longest[:maxText])},
		{accepted(bl(1, 0), 0, longest[:40_000]), accepted(bl(1, 0), 1, longest[:40_000])},
		{chosen(0, longest[:maxText])},
		{chosen(0, longest[:40_000]), chosen(5, longest[:40_000])},
		{accepted(bl(1, 0), 0, longest[:40_000]), chosen(0, longest[:40_000])},
		small,
	} {
		a, log, p := build(t, 3, state{said: l})
		if size := len(p.bytes()); size <= maxText {
			t.Fatalf("%d: %d bytes only", i, size)
		}
		d := diskOf(t, nil, []string{"ab"})
		if e := stable.Compact(d, a, log); e != api.ErrLong {
			t.Errorf("%d: %d", i, e)
		}
		expectDisk(t, d, nil, []string{"ab"})
	}
}

// P17.4: bytes that would be MaxText without the last ones of them: those of an entry, of the log, or of a value.
func TestCompactRest(t *testing.T) {
	entry, value := accepted(bl(1, 0), 0, ""), chosen(0, "")
	for _, s := range []state{{said: []said{entry}}, {said: []said{entry, accepted(bl(1, 0), 1, "")}}, {said: []said{entry, value}}, {said: []said{value, chosen(1, "")}}, {said: []said{entry, value, chosen(1, "")}}} {
		for more := -8; more <= 12; more++ {
			s.said[0].value = longest[:maxText-30]
			_, _, p := build(t, 3, s)
			s.said[0].value = longest[:2*maxText-30-len(p.bytes())+more]
			a, l, p := build(t, 3, s)
			is(t, len(p.bytes()), maxText+more)
			d, want := disk.New(), api.OK
			if more > 0 {
				want = api.ErrLong
			}
			is(t, stable.Compact(d, a, l), want)
		}
	}
}

// P17.4: as many and as long values as there can be, which are far too many.
func TestCompactHuge(t *testing.T) {
	a, e := accept.New(3)
	ok(t, e)
	l := slots.New()
	for slot := range lastSlot + 1 {
		ok(t, a.Accept(bl(1, 0), slot, longest[:maxText]))
		ok(t, l.Put(slot, longest[:maxText]))
	}
	is(t, stable.Compact(disk.New(), a, l), api.ErrLong)
	is(t, stable.Compact(nil, a, l), api.ErrNil)
}

// P17.4, R2: disks, acceptors and logs that are not valid; ErrNil comes before ErrLong.
func TestCompactNil(t *testing.T) {
	for _, size := range []int{100, maxText + 1} {
		a, l, _ := longState(t, size)
		for _, d := range []*disk.Disk{nil, {}, disk.New()} {
			for _, x := range []*accept.Acceptor{nil, {}, a} {
				for _, y := range []*slots.Log{nil, {}, l} {
					if d.Copy() != nil && x == a && y == l {
						continue
					}
					is(t, stable.Compact(d, x, y), api.ErrNil)
					is(t, d.Len(), 0)
					_, saved := d.Snapshot()
					is(t, saved, false)
				}
			}
		}
		d := diskOf(t, nil, []string{"ab"})
		is(t, stable.Compact(d, nil, l), api.ErrNil)
		is(t, stable.Compact(d, a, nil), api.ErrNil)
		expectDisk(t, d, nil, []string{"ab"})
	}
}

// P17.5: disks and numbers of nodes that are not valid, whatever else there is: ErrNil before ErrArg before ErrForm.
func TestRecoverErrors(t *testing.T) {
	numbers := []int{math.MinInt, -1 << 32, -7, -1, 0, 1, 2, 3, 6, 7, 8, 9, 1 << 32, 1<<32 + 1, 1<<32 + 7, math.MaxInt}
	bad := "no snapshot"
	for _, n := range numbers {
		for _, d := range []*disk.Disk{nil, {}} {
			a, l, e := stable.Recover(n, d)
			if a != nil || l != nil || e != api.ErrNil {
				t.Errorf("Recover(%d) of no disk: %v, %v, %d", n, a, l, e)
			}
		}
		for _, d := range []*disk.Disk{disk.New(), diskOf(t, &bad, nil), diskOf(t, nil, []string{"no record"})} {
			if n >= 1 && n <= mostNodes {
				fine := d.Len() == 0
				if _, saved := d.Snapshot(); saved {
					fine = false
				}
				expectRecover(t, n, d, newPlain(n), fine)
				continue
			}
			a, l, e := stable.Recover(n, d)
			if a != nil || l != nil || e != api.ErrArg {
				t.Errorf("Recover(%d): %v, %v, %d", n, a, l, e)
			}
		}
	}
}

// alphabet are records that can be done in some courses, and some that are none.
func alphabet() []string {
	return []string{
		promised(bl(1, 0)).record(), promised(bl(2, 1)).record(), promised(bl(2, 2)).record(), promised(bl(1, 3)).record(),
		accepted(bl(1, 0), 0, "a").record(), accepted(bl(2, 1), 0, "b").record(), accepted(bl(2, 1), 3, "").record(), accepted(bl(3, 3), 1, "c").record(),
		chosen(0, "a").record(), chosen(0, "b").record(), chosen(3, "").record(),
		"", "\x04", "\x03\x00\x01a\x00",
	}
}

// P17.5: all courses of up to six records, behind snapshots of several kinds or none.
func TestRecoverCourses(t *testing.T) {
	letters := alphabet()
	_, _, p := build(t, 3, state{said: []said{accepted(bl(2, 0), 2, "s"), chosen(3, "t")}, base: 1, start: 0})
	_, _, q := build(t, 3, state{said: []said{promised(bl(2, 1))}, base: 0, start: 3})
	snapshots := []*string{nil, new(p.bytes()), new(q.bytes())}
	var all func(snapshot *string, records []string, left int)
	all = func(snapshot *string, records []string, left int) {
		want, fine := recovered(3, snapshot, records)
		expectRecover(t, 3, diskOf(t, snapshot, records), want, fine)
		if !fine || left == 0 { // what follows can't make it fine
			return
		}
		for _, record := range letters {
			all(snapshot, append(slices.Clip(records), record), left-1)
		}
	}
	for _, snapshot := range snapshots {
		all(snapshot, nil, 6)
	}
}

// P17.5: a record that can't be done, or is none, stands before and behind ones that are fine.
func TestRecoverWrong(t *testing.T) {
	fine := []string{promised(bl(5, 1)).record(), accepted(bl(5, 1), 3, "a").record(), chosen(2, "b").record()}
	wrong := []string{"", "\x00", "\x04", "\x01\x05", "\x01\x05\x01\x00", promised(bl(5, 3)).record(), promised(bl(1, 7)).record(), "\x01\x00\x00", accepted(bl(6, 3), 3, "a").record(), "\x03\x80\x20\x00", "\x02\x06\x00\x80\x20\x00", longest[:maxText]}
	for _, record := range wrong {
		for at := range len(fine) + 1 {
			expectRecover(t, 3, diskOf(t, nil, slices.Insert(slices.Clone(fine), at, record)), nil, false)
		}
	}
	for _, record := range []string{promised(bl(5, 0)).record(), promised(bl(4, 2)).record(), accepted(bl(5, 0), 9, "a").record(), accepted(bl(4, 2), 3, "a").record(), chosen(2, "c").record(), chosen(2, "").record()} {
		expectRecover(t, 3, diskOf(t, nil, append(slices.Clone(fine), record)), nil, false)
		want, is := recovered(3, nil, []string{record})
		expectRecover(t, 3, diskOf(t, nil, []string{record}), want, is)
	}
}

// P17.5: ballots of as many nodes as there are, and not of more.
func TestRecoverNodes(t *testing.T) {
	for n := 1; n <= mostNodes; n++ {
		for node := range mostNodes {
			b := bl(5, node)
			for _, s := range []said{promised(b), accepted(b, 3, "a")} {
				want, fine := recovered(n, nil, []string{s.record()})
				if fine != (node < n) {
					t.Fatalf("node %d of %d: %t", node, n, fine)
				}
				expectRecover(t, n, diskOf(t, nil, []string{s.record()}), want, fine)
				one := recoveredOf(t, s)
				want, fine = parsePlain(n, one)
				expectRecover(t, n, diskOf(t, &one, nil), want, fine)
			}
			// an entry's ballot alone is of too many nodes
			low := numbers(5, 0, 0, 1, 3, 4, node) + text("a") + numbers(0, 0)
			want, fine := parsePlain(n, low)
			expectRecover(t, n, diskOf(t, &low, nil), want, fine)
		}
	}
}

// recoveredOf returns the snapshot of an acceptor of seven nodes with which one record was done.
func recoveredOf(t *testing.T, s said) string {
	t.Helper()
	p, fine := recovered(mostNodes, nil, []string{s.record()})
	is(t, fine, true)
	return p.bytes()
}

// P17.5: records that are not safe count as well, as long as they are whole, and nothing changes on the disk.
func TestRecoverUnsafe(t *testing.T) {
	records := []string{promised(bl(5, 2)).record(), accepted(bl(5, 2), 300, "ab").record(), chosen(0, "").record()}
	for safe := range len(records) + 1 {
		d := diskOf(t, nil, records[:safe])
		for _, record := range records[safe:] {
			ok(t, d.Append([]byte(record)))
		}
		was, size := d.Safe(), d.Len()
		for range 2 {
			want, fine := recovered(3, nil, records)
			expectRecover(t, 3, d, want, fine)
			is(t, d.Safe(), was)
			is(t, d.Len(), size)
			expectDisk(t, d, nil, records)
		}
		for left := range size - was + 2 {
			c := d.Copy()
			c.Tear(left)
			whole := len(c.Records())
			want, fine := recovered(3, nil, records[:whole])
			expectRecover(t, 3, c, want, fine)
		}
	}
}

// P17.5: a snapshot that is there may have no bytes, which are not those of an acceptor and a log.
func TestRecoverEmpty(t *testing.T) {
	empty, smallest := "", strings.Repeat("\x00", 6)
	expectRecover(t, 3, diskOf(t, nil, nil), newPlain(3), true)
	expectRecover(t, 3, diskOf(t, &smallest, nil), newPlain(3), true)
	expectRecover(t, 3, diskOf(t, &empty, nil), nil, false)
	expectRecover(t, 3, diskOf(t, &empty, []string{promised(bl(5, 2)).record()}), nil, false)
	for size := range 20 {
		zeros := strings.Repeat("\x00", size)
		expectRecover(t, 3, diskOf(t, &zeros, nil), newPlain(3), size == 6)
	}
}

// expectSnapshot checks what Recover makes of a snapshot.
func expectSnapshot(t *testing.T, n int, snapshot string) {
	t.Helper()
	want, fine := parsePlain(n, snapshot)
	a, l := expectRecover(t, n, diskOf(t, &snapshot, nil), want, fine)
	if !fine {
		return
	}
	d := disk.New()
	ok(t, stable.Compact(d, a, l))
	expectDisk(t, d, &snapshot, nil) // there is one way to write it
}

// P17.5: snapshots with each byte changed to each other one, cut at each place, and with bytes behind them.
func TestSnapshotChanged(t *testing.T) {
	for _, s := range states() {
		_, _, p := build(t, 3, s)
		snapshot := p.bytes()
		if len(snapshot) > 100 {
			continue
		}
		for _, n := range []int{1, 2, 3, 4, 7} {
			expectSnapshot(t, n, snapshot)
		}
		for i := range snapshot {
			expectSnapshot(t, 3, snapshot[:i])
			expectSnapshot(t, 3, snapshot[i:])
			for x := range 256 {
				expectSnapshot(t, 3, snapshot[:i]+string([]byte{byte(x)})+snapshot[i+1:])
				expectSnapshot(t, 3, snapshot[:i]+string([]byte{byte(x)})+snapshot[i:])
			}
		}
		for x := range 256 {
			expectSnapshot(t, 3, snapshot+string([]byte{byte(x)}))
		}
	}
}

// P17.5: each number in a snapshot is any other one, also one that no int holds.
func TestSnapshotNumbers(t *testing.T) {
	ns := []uint64{0, 1, 2, 3, 4, 5, 6, 7, 8, 9, 10, 127, 128, 4094, 4095, 4096, 4097, lastRound, lastRound + 1, 1 << 31, 1 << 32, 1<<32 + 1, 1<<32 + 2, 1<<32 + 3, 1<<32 + 5, 1<<63 - 2, 1<<63 - 1, 1 << 63, 1<<63 + 1, 1<<63 + 5, 1<<64 - 2, 1<<64 - 1}
	// the promised ballot, the base, two entries, the log's base, two values
	parts := []string{numbers(5), numbers(2), numbers(1), numbers(2), numbers(3), numbers(5), numbers(1), text("a"), numbers(7), numbers(4), numbers(2), text(""), numbers(2), numbers(2), numbers(4), text("b"), numbers(6), text("cd")}
	expectSnapshot(t, 3, strings.Join(parts, ""))
	for i, part := range parts {
		for _, x := range ns {
			parts[i] = number(x)
			expectSnapshot(t, 3, strings.Join(parts, ""))
			for j := range i {
				other := parts[j]
				for _, y := range ns {
					parts[j] = number(y)
					expectSnapshot(t, 3, strings.Join(parts, ""))
				}
				parts[j] = other
			}
		}
		parts[i] = part
	}
}

// P17.5: two slots, of entries and of values, in any order and on either side of the bases.
func TestSnapshotSlots(t *testing.T) {
	few := []int{0, 1, 2, 3, 4094, 4095, 4096, 4097}
	for _, base := range few {
		for _, x := range few {
			for _, y := range few {
				for _, value := range []string{"a", "b"} {
					entries := numbers(5, 2, base, 2, x, 1, 0) + text("a") + numbers(y, 1, 0) + text(value) + numbers(0, 0)
					expectSnapshot(t, 3, entries)
					expectSnapshot(t, 3, numbers(5, 2, 0, 0, base, 2, x)+text("a")+numbers(y)+text(value))
				}
			}
			expectSnapshot(t, 3, numbers(5, 2, base, 1, x, 1, 0)+text("a")+numbers(0, 0))
			expectSnapshot(t, 3, numbers(5, 2, 0, 0, base, 1, x)+text("a"))
		}
	}
}

// P17.5: three entries with ballots in any order, and promised ballots above, at and below them.
func TestSnapshotBallots(t *testing.T) {
	few := []api.Ballot{zero, bl(0, 1), bl(1, 0), bl(1, 2), bl(2, 0), bl(2, 1), bl(2, 3), bl(lastRound, 2), bl(lastRound+1, 0)}
	for _, promised := range few {
		for _, x := range few {
			for _, y := range few {
				for _, z := range few {
					snapshot := numbers(promised.Round, promised.Node, 0, 3)
					for slot, b := range []api.Ballot{x, y, z} {
						snapshot += numbers(slot, b.Round, b.Node) + text("v")
					}
					expectSnapshot(t, 3, snapshot+numbers(0, 0))
				}
			}
		}
		expectSnapshot(t, 3, numbers(promised.Round, promised.Node, 0, 0, 0, 0))
	}
}

// P17.5: a snapshot says more entries or values than there are, and than there can be.
func TestSnapshotCounts(t *testing.T) {
	for _, n := range []uint64{1, 2, 3, 4095, 4096, 4097, 1 << 31, 1 << 32, 1 << 62, 1<<63 - 1, 1 << 63, 1<<64 - 1} {
		for _, have := range []int{0, 1, 2, 4096} {
			entries, values := "", ""
			for slot := range have {
				entries += numbers(slot, 1, 0) + text("")
				values += numbers(slot) + text("")
			}
			expectSnapshot(t, 3, numbers(1, 0, 0)+number(n)+entries+numbers(0, 0))
			expectSnapshot(t, 3, numbers(1, 0, 0, 0, 0)+number(n)+values)
			expectSnapshot(t, 3, numbers(1, 0, 0)+number(n)+entries)
		}
	}
}

// P17.5, limits: a snapshot of MaxText bytes.
func TestSnapshotLong(t *testing.T) {
	for size := maxText - 2; size <= maxText; size++ {
		_, _, p := longState(t, size)
		snapshot := p.bytes()
		expectSnapshot(t, 3, snapshot)
		expectSnapshot(t, 3, snapshot[:size-1])
		expectSnapshot(t, 3, longest[:size])
		expectSnapshot(t, 3, strings.Repeat("\x00", size))
	}
}

// P17.5, P17.7: records behind a snapshot are done with what it says.
func TestSnapshotThenRecords(t *testing.T) {
	for _, s := range states() {
		_, _, p := build(t, 3, s)
		snapshot := p.bytes()
		for _, record := range append(alphabet(), promised(p.promised).record(), accepted(bl(lastRound, 2), lastSlot, "last").record(), chosen(p.start, "first").record(), chosen(lastSlot, "z").record()) {
			want, fine := recovered(3, &snapshot, []string{record})
			expectRecover(t, 3, diskOf(t, &snapshot, []string{record}), want, fine)
		}
	}
}

// node is a node of three that writes what it promises, accepts and hears to be chosen, and what it has told of it.
type node struct {
	t    *testing.T
	d    *disk.Disk
	a    *accept.Acceptor
	l    *slots.Log
	told *plain
}

// write writes a record, and lets the node do what it says. Then it may tell of it.
func (x *node) write(s said) {
	x.t.Helper()
	record, e := s.make()
	ok(x.t, e)
	before := x.told.copy()
	if !before.do(s) { // it refuses
		return
	}
	ok(x.t, stable.Write(x.d, record))
	switch s.kind {
	case 1:
		_, e = x.a.Promise(s.b, 0)
	case 2:
		e = x.a.Accept(s.b, s.slot, s.value)
	default:
		e = x.l.Put(s.slot, s.value)
	}
	ok(x.t, e)
	x.told.do(s)
}

// crash loses what is not safe, but for some bytes, and starts the node again. It checks that it has all that it told.
func (x *node) crash(left int) {
	x.t.Helper()
	x.d.Tear(left)
	x.a, x.l = expectRecover(x.t, 3, x.d, x.told, true)
}

// anything returns what a node may write, with few ballots, slots and values.
func anything(r *rand.Rand, round int) said {
	b := bl(round+r.Intn(3), r.Intn(3))
	slot := r.Intn(6)
	switch r.Intn(4) {
	case 0:
		return promised(b)
	case 1:
		return chosen(slot, string(rune('a'+slot))) // of a slot, always the same value is chosen
	default:
		return accepted(b, slot, strings.Repeat("v", r.Intn(4)))
	}
}

// P17.6, P17.7, G4: in long courses, a node that starts again has promised and accepted all that it told, whatever was torn,
// and whether it compacted its disk or not; and a disk that was never compacted says the same.
func TestCrashes(t *testing.T) {
	for seed := range 60 {
		r := rand.New(rand.NewSource(int64(seed)))
		a, e := accept.New(3)
		ok(t, e)
		x := &node{t, disk.New(), a, slots.New(), newPlain(3)}
		y := &node{t, disk.New(), a.Copy(), slots.New(), newPlain(3)} // it never compacts
		for step := range 300 {
			s := anything(r, 1+step/10)
			switch r.Intn(12) {
			case 0:
				ok(t, stable.Compact(x.d, x.a, x.l))
			case 1: // it crashes while it writes: it has not told
				record, e := s.make()
				ok(t, e)
				ok(t, x.d.Append(record))
				x.crash(r.Intn(len(record) + 8))
			case 2:
				x.crash(r.Intn(30))
				y.crash(0)
			default:
				x.write(s)
				y.write(s)
			}
		}
		expectRecover(t, 3, x.d, y.told, true)
		expectRecover(t, 3, y.d, x.told, true)
	}
}

// P17.6: a record that is whole when its node crashes counts, although the node has not told of it.
func TestCrashWhole(t *testing.T) {
	told := promised(bl(5, 1))
	for _, s := range []said{promised(bl(5, 2)), accepted(bl(5, 1), 3, "abc"), chosen(2, "x")} {
		record := s.record()
		for left := range len(record) + 12 {
			d := diskOf(t, nil, []string{told.record()})
			ok(t, d.Append([]byte(record)))
			d.Tear(left)
			records := []string{told.record()}
			if left >= 8+len(record) {
				records = append(records, record)
			}
			want, fine := recovered(3, nil, records)
			expectRecover(t, 3, d, want, fine)
			expectDisk(t, d, nil, records)
		}
	}
}

// P17.7: a disk that is compacted at any places of a course says the same in the end.
func TestCompactAnywhere(t *testing.T) {
	course := []said{promised(bl(1, 0)), accepted(bl(1, 0), 4, "a"), chosen(0, "x"), promised(bl(2, 1)), accepted(bl(2, 1), 2, "b"), accepted(bl(2, 2), 4, "c"), chosen(2, "y"), accepted(bl(3, 0), 0, ""), chosen(0, "x")}
	for places := range 1 << len(course) {
		d, p := disk.New(), newPlain(3)
		for i, s := range course {
			ok(t, stable.Write(d, []byte(s.record())))
			is(t, p.do(s), true)
			if places>>i&1 == 1 {
				a, l, e := stable.Recover(3, d)
				ok(t, e)
				ok(t, stable.Compact(d, a, l))
				is(t, d.Len(), 0)
			}
		}
		expectRecover(t, 3, d, p, true)
	}
}

// P17.5, limits: a disk that is full of records, with entries and values at all slots.
func TestRecoverFull(t *testing.T) {
	d, p := disk.New(), newPlain(7)
	write := func(s said) bool {
		if d.Append([]byte(s.record())) != api.OK {
			return false
		}
		is(t, p.do(s), true)
		return true
	}
	for slot := range lastSlot + 1 {
		is(t, write(chosen(slot, "value")), true)
	}
	for i := 0; write(accepted(bl(1+i, i%7), i*37%4096, "some value")); i++ {
	}
	d.Sync()
	expectRecover(t, 7, d, p, true)
	a, l := expectRecover(t, 7, d, p, true)
	is(t, stable.Compact(d, a, l), api.ErrLong)
	expectRecover(t, 7, d, p, true)
}

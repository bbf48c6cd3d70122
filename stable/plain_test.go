package stable_test

import (
	"encoding/binary"
	"fmt"
	"maps"
	"math"
	"slices"
	"strings"
	"testing"

	"skald/accept"
	"skald/api"
	"skald/disk"
	"skald/slots"
	"skald/stable"
)

const (
	maxText   = 65_536
	lastSlot  = 4_095
	lastRound = 1 << 30
	mostNodes = 7
)

var zero api.Ballot

// bl returns a ballot.
func bl(round, node int) api.Ballot { return api.Ballot{Round: round, Node: node} }

// isBelow reports whether a ballot comes before another one.
func isBelow(a, b api.Ballot) bool {
	return a.Round < b.Round || a.Round == b.Round && a.Node < b.Node
}

// isGood reports whether a ballot is one of n nodes, and not zero.
func isGood(b api.Ballot, n int) bool {
	return b.Round >= 1 && b.Round <= lastRound && b.Node >= 0 && b.Node < n
}

// number returns a number's bytes, to the base 128.
func number(n uint64) string { return string(binary.AppendUvarint(nil, n)) }

// numbers returns the bytes of several numbers.
func numbers(l ...int) string {
	all := ""
	for _, n := range l {
		all += number(uint64(n))
	}
	return all
}

// text returns a text's bytes.
func text(s string) string { return numbers(len(s)) + s }

// said is what a record says.
type said struct {
	kind  int
	b     api.Ballot
	slot  int
	value string
}

func promised(b api.Ballot) said { return said{kind: 1, b: b} }

func accepted(b api.Ballot, slot int, value string) said { return said{2, b, slot, value} }

func chosen(slot int, value string) said { return said{kind: 3, slot: slot, value: value} }

// String writes what a record says, a long value shortened.
func (s said) String() string {
	return fmt.Sprintf("%d: %d.%d at %d %.9q(%d)", s.kind, s.b.Round, s.b.Node, s.slot, s.value, len(s.value))
}

// record returns the bytes as the chapter's table has them, however many these are.
func (s said) record() string {
	switch s.kind {
	case 1:
		return numbers(1, s.b.Round, s.b.Node)
	case 2:
		return numbers(2, s.b.Round, s.b.Node, s.slot) + text(s.value)
	default:
		return numbers(3, s.slot) + text(s.value)
	}
}

// make has the record made by the package.
func (s said) make() ([]byte, api.Errno) {
	switch s.kind {
	case 1:
		return stable.Promise(s.b)
	case 2:
		return stable.Accept(s.b, s.slot, s.value)
	default:
		return stable.Choose(s.slot, s.value)
	}
}

// taker takes numbers and texts from some bytes, until something else stands there.
type taker struct {
	rest string
	bad  bool
}

func (x *taker) number() uint64 {
	n, size := binary.Uvarint([]byte(x.rest[:min(len(x.rest), 10)]))
	if x.bad || size <= 0 || number(n) != x.rest[:size] {
		x.bad = true
		return 0
	}
	x.rest = x.rest[size:]
	return n
}

// upto takes a number of at most last.
func (x *taker) upto(last int) int {
	n := x.number()
	if n > uint64(last) {
		x.bad = true
		return 0
	}
	return int(n)
}

func (x *taker) text() string {
	size := x.upto(maxText)
	if x.bad || size > len(x.rest) {
		x.bad = true
		return ""
	}
	s := x.rest[:size]
	x.rest = x.rest[size:]
	return s
}

// ballot takes a ballot of n nodes, which may be zero.
func (x *taker) ballot(n int) api.Ballot {
	b := bl(x.upto(lastRound), x.upto(mostNodes))
	x.bad = x.bad || b != zero && !isGood(b, n)
	return b
}

// good takes a ballot of n nodes, which is not zero.
func (x *taker) good(n int) api.Ballot {
	b := x.ballot(n)
	x.bad = x.bad || b == zero
	return b
}

func (x *taker) fine() bool { return !x.bad && x.rest == "" }

// parse returns what a record says, and whether it is one.
func parse(record string) (said, bool) {
	x := &taker{rest: record}
	var s said
	switch s.kind = x.upto(3); s.kind {
	case 0:
		x.bad = true
	case 1:
		s = promised(x.good(mostNodes))
	case 2:
		s = accepted(x.good(mostNodes), x.upto(lastSlot), x.text())
	case 3:
		s = chosen(x.upto(lastSlot), x.text())
	}
	if !x.fine() || len(record) > maxText {
		return said{}, false
	}
	return s, true
}

// plain is an acceptor of n nodes, and a log, as chapters 12 and 15 define them.
type plain struct {
	n        int
	promised api.Ballot
	base     int
	entries  map[int]api.Entry
	start    int // the base of the log
	values   map[int]string
}

func newPlain(n int) *plain {
	return &plain{n: n, entries: map[int]api.Entry{}, values: map[int]string{}}
}

func (p *plain) copy() *plain {
	c := *p
	c.entries, c.values = maps.Clone(p.entries), maps.Clone(p.values)
	return &c
}

// list returns the entries by their slots.
func (p *plain) list() []api.Entry {
	var l []api.Entry
	for _, slot := range slices.Sorted(maps.Keys(p.entries)) {
		l = append(l, p.entries[slot])
	}
	return l
}

// bytes returns the bytes of the acceptor and the log.
func (p *plain) bytes() string {
	var all strings.Builder
	all.WriteString(numbers(p.promised.Round, p.promised.Node, p.base, len(p.entries)))
	for _, x := range p.list() {
		all.WriteString(numbers(x.Slot, x.B.Round, x.B.Node) + text(x.Value))
	}
	all.WriteString(numbers(p.start, len(p.values)))
	for _, slot := range slices.Sorted(maps.Keys(p.values)) {
		all.WriteString(numbers(slot) + text(p.values[slot]))
	}
	return all.String()
}

// parsePlain returns the acceptor of n nodes and the log that a snapshot says, and whether it says some.
func parsePlain(n int, snapshot string) (*plain, bool) {
	x := &taker{rest: snapshot}
	p := newPlain(n)
	p.promised = x.ballot(n)
	p.base = x.upto(lastSlot + 1)
	next := p.base
	for k := x.number(); k > 0 && !x.bad; k-- {
		slot, b, value := x.upto(lastSlot), x.good(n), x.text()
		x.bad = x.bad || slot < next || isBelow(p.promised, b)
		p.entries[slot] = api.Entry{Slot: slot, B: b, Value: value}
		next = slot + 1
	}
	p.start = x.upto(lastSlot + 1)
	next = p.start
	for k := x.number(); k > 0 && !x.bad; k-- {
		slot, value := x.upto(lastSlot), x.text()
		x.bad = x.bad || slot < next
		p.values[slot] = value
		next = slot + 1
	}
	return p, x.fine()
}

// do does what a record says, and reports whether this can be done.
func (p *plain) do(s said) bool {
	if s.kind == 3 {
		there, is := p.values[s.slot]
		if s.slot < p.start || is && there != s.value {
			return false
		}
		p.values[s.slot] = s.value
		return true
	}
	if !isGood(s.b, p.n) || isBelow(s.b, p.promised) || s.kind == 2 && s.slot < p.base {
		return false
	}
	p.promised = s.b
	if s.kind == 2 {
		p.entries[s.slot] = api.Entry{Slot: s.slot, B: s.b, Value: s.value}
	}
	return true
}

// recovered returns what a disk with these contents says, and whether it says something. Without a snapshot, it is nil.
func recovered(n int, snapshot *string, records []string) (*plain, bool) {
	p, fine := newPlain(n), true
	if snapshot != nil {
		p, fine = parsePlain(n, *snapshot)
	}
	for _, record := range records {
		s, is := parse(record)
		fine = fine && is && p.do(s)
	}
	return p, fine
}

// show writes entries for a message, long values cut.
func show(l []api.Entry) string {
	var s strings.Builder
	for _, x := range l[:min(len(l), 20)] {
		fmt.Fprintf(&s, "%d/%d.%d/%.9q(%d) ", x.Slot, x.B.Round, x.B.Node, x.Value, len(x.Value))
	}
	return fmt.Sprintf("%d entries: %s", len(l), &s)
}

// expectAcceptor checks all that there is in an acceptor, and how many nodes it has.
func expectAcceptor(t *testing.T, a *accept.Acceptor, p *plain) {
	t.Helper()
	if a == nil {
		t.Fatal("no acceptor")
	}
	if b := a.Promised(); b != p.promised {
		t.Fatalf("promised %v, want %v", b, p.promised)
	}
	if base := a.Base(); base != p.base {
		t.Fatalf("acceptor's base %d, want %d", base, p.base)
	}
	if got, want := a.List(math.MinInt), p.list(); !slices.Equal(got, want) {
		t.Fatalf("accepted %s; want %s", show(got), show(want))
	}
	c := a.Copy()
	if _, e := c.Promise(bl(lastRound, p.n), 0); e != api.ErrArg {
		t.Fatalf("an acceptor of %d nodes promises a ballot of node %d: %d", p.n, p.n, e)
	}
	if _, e := c.Promise(bl(lastRound, p.n-1), 0); e != api.OK {
		t.Fatalf("an acceptor of %d nodes promises no ballot of node %d: %d", p.n, p.n-1, e)
	}
}

// gaps returns the slots from the log's base on without a value, but with one behind them; and the first one without a value.
func (p *plain) gaps() ([]int, int) {
	var gaps []int
	next := p.start
	for _, slot := range slices.Sorted(maps.Keys(p.values)) {
		for ; next < slot; next++ {
			gaps = append(gaps, next)
		}
		next = slot + 1
	}
	if len(gaps) > 0 {
		return gaps, gaps[0]
	}
	return nil, next
}

// expectLog checks all that there is in a log: another value would be in no gap.
func expectLog(t *testing.T, l *slots.Log, p *plain) {
	t.Helper()
	if l == nil {
		t.Fatal("no log")
	}
	if base := l.Base(); base != p.start {
		t.Fatalf("log's base %d, want %d", base, p.start)
	}
	gaps, first := p.gaps()
	if got := l.Gaps(); !slices.Equal(got, gaps) || l.Upto() != first {
		t.Fatalf("log's gaps %v, Upto %d; want %v, %d", got, l.Upto(), gaps, first)
	}
	for slot, want := range p.values {
		if value, is := l.Get(slot); value != want || !is {
			t.Fatalf("chosen at %d: %.9q(%d), %t; want %.9q(%d)", slot, value, len(value), is, want, len(want))
		}
	}
}

// expectRecover checks what Recover returns: an acceptor and a log, or ErrForm if there are none.
func expectRecover(t *testing.T, n int, d *disk.Disk, want *plain, fine bool) (*accept.Acceptor, *slots.Log) {
	t.Helper()
	a, l, e := stable.Recover(n, d)
	if !fine {
		if a != nil || l != nil || e != api.ErrForm {
			t.Fatalf("Recover(%d) of %s: %v, %v, %d; want ErrForm", n, contents(d), a, l, e)
		}
		return nil, nil
	}
	if e != api.OK {
		t.Fatalf("Recover(%d) of %s: %d", n, contents(d), e)
	}
	expectAcceptor(t, a, want)
	expectLog(t, l, want)
	return a, l
}

// contents returns a text for what is on a disk, of which much is shortened.
func contents(d *disk.Disk) string {
	var all strings.Builder
	if snapshot, is := d.Snapshot(); is {
		fmt.Fprintf(&all, "snapshot %v(%d)", snapshot[:min(len(snapshot), 50)], len(snapshot))
	}
	records := d.Records()
	for _, record := range records[:min(len(records), 10)] {
		fmt.Fprintf(&all, " %v(%d)", record[:min(len(record), 20)], len(record))
	}
	return fmt.Sprintf("%s, %d records, %d of %d bytes safe", &all, len(records), d.Safe(), d.Len())
}

// diskOf returns a disk with a snapshot, if there is one, and records, all of which are safe.
func diskOf(t *testing.T, snapshot *string, records []string) *disk.Disk {
	t.Helper()
	d := disk.New()
	if snapshot != nil {
		if e := d.Save([]byte(*snapshot)); e != api.OK {
			t.Fatalf("Save of %d bytes: %d", len(*snapshot), e)
		}
	}
	for _, record := range records {
		if e := d.Append([]byte(record)); e != api.OK {
			t.Fatalf("Append of %d bytes: %d", len(record), e)
		}
	}
	d.Sync()
	return d
}

// expectDisk checks all that is on a disk.
func expectDisk(t *testing.T, d *disk.Disk, snapshot *string, records []string) {
	t.Helper()
	state, is := d.Snapshot()
	if is != (snapshot != nil) || is && string(state) != *snapshot {
		t.Fatalf("snapshot %v(%d), %t", state[:min(len(state), 50)], len(state), is)
	}
	var l []string
	for _, record := range d.Records() {
		l = append(l, string(record))
	}
	if !slices.Equal(l, records) {
		t.Fatalf("records of %s; want %d: %.50q", contents(d), len(records), records[:min(len(records), 10)])
	}
}

// is checks that something is what it has to be.
func is[T comparable](t *testing.T, got, want T) {
	t.Helper()
	if got != want {
		t.Errorf("%s, want %s", cut(got), cut(want))
	}
}

// cut returns a text for a value, of which not too much is told.
func cut(x any) string {
	s := fmt.Sprintf("%q", fmt.Sprint(x))
	return s[:min(len(s), 100)]
}

// ok ends a test that can't go on.
func ok(t *testing.T, e api.Errno) {
	t.Helper()
	if e != api.OK {
		t.Fatalf("error %d", e)
	}
}

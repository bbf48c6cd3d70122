package accept_test

import (
	"fmt"
	"math"
	"math/rand"
	"slices"
	"strings"
	"testing"

	"skald/accept"
	"skald/api"
)

const (
	lastSlot  = 4095
	lastRound = 1 << 30
	mostNodes = 7
)

var (
	zero    api.Ballot
	nothing api.Entry
)

// Numbers in and around what is allowed, and far away.
var (
	counts = []int{math.MinInt, -1 << 32, -7, -1, 0, 1, 2, 3, 4, 5, 6, 7, 8, 9, 1 << 32, 1<<32 + 1, 1<<32 + 7, math.MaxInt}
	places = []int{math.MinInt, math.MinInt + 1, -1 << 32, -4096, -2, -1, 0, 1, 2, 3, 4, 5, 99, 100, 101, 4094, 4095, 4096, 4097, 4098, 1 << 32, 1<<32 + 1, math.MaxInt - 1, math.MaxInt}
)

// values are allowed, up to the longest one; the one in long is not.
var (
	values = []string{"", "x", "\x00", "\xff\xfe", "äöü", strings.Repeat("v", 65535), strings.Repeat("v", 65536)}
	long   = strings.Repeat("v", 65537)
)

// bl returns a ballot.
func bl(round, node int) api.Ballot { return api.Ballot{Round: round, Node: node} }

// at returns an entry.
func at(slot int, b api.Ballot, value string) api.Entry {
	return api.Entry{Slot: slot, B: b, Value: value}
}

// plain is an acceptor as the chapter defines it, with its entries in the order in which they were accepted.
type plain struct {
	n, base  int
	promised api.Ballot
	l        []api.Entry
}

func (p *plain) copy() *plain {
	return &plain{p.n, p.base, p.promised, slices.Clone(p.l)}
}

func (p *plain) good(b api.Ballot) bool {
	return b.Round >= 1 && b.Round <= 1<<30 && b.Node >= 0 && b.Node < p.n
}

func isBelow(a, b api.Ballot) bool {
	return a.Round < b.Round || a.Round == b.Round && a.Node < b.Node
}

func (p *plain) promise(b api.Ballot, from int) ([]api.Entry, api.Errno) {
	if !p.good(b) || from < 0 || from > 4096 {
		return nil, api.ErrArg
	}
	if isBelow(b, p.promised) {
		return nil, api.ErrOrder
	}
	p.promised = b
	return p.list(from), api.OK
}

func (p *plain) accept(b api.Ballot, slot int, value string) api.Errno {
	switch {
	case !p.good(b), slot < 0, slot > 4095:
		return api.ErrArg
	case len(value) > 65536:
		return api.ErrLong
	case isBelow(b, p.promised):
		return api.ErrOrder
	case slot < p.base:
		return api.ErrRange
	}
	p.promised = b
	p.l = slices.DeleteFunc(p.l, func(x api.Entry) bool { return x.Slot == slot })
	p.l = append(p.l, at(slot, b, value))
	return api.OK
}

func (p *plain) accepted(slot int) (api.Entry, bool) {
	for _, x := range p.l {
		if x.Slot == slot {
			return x, true
		}
	}
	return nothing, false
}

func (p *plain) list(from int) []api.Entry {
	var l []api.Entry
	for _, x := range p.l {
		if x.Slot >= from {
			l = append(l, x)
		}
	}
	slices.SortFunc(l, func(x, y api.Entry) int { return x.Slot - y.Slot })
	return l
}

func (p *plain) forget(upto int) api.Errno {
	if upto < 0 || upto > 4096 {
		return api.ErrArg
	}
	if upto > p.base {
		p.base = upto
		p.l = slices.DeleteFunc(p.l, func(x api.Entry) bool { return x.Slot < upto })
	}
	return api.OK
}

// show writes entries for a message, long values cut.
func show(l []api.Entry) string {
	var s strings.Builder
	for _, x := range l[:min(len(l), 20)] {
		fmt.Fprintf(&s, "%d/%d.%d/%.9q(%d) ", x.Slot, x.B.Round, x.B.Node, x.Value, len(x.Value))
	}
	return fmt.Sprintf("%d entries: %s", len(l), &s)
}

// expectState checks what the acceptor says of itself, but for its single entries.
func expectState(t *testing.T, a *accept.Acceptor, p *plain) {
	t.Helper()
	if b := a.Promised(); b != p.promised {
		t.Fatalf("Promised: %v, want %v", b, p.promised)
	}
	if base := a.Base(); base != p.base {
		t.Fatalf("Base: %d, want %d", base, p.base)
	}
	if got, want := a.List(0), p.list(0); !slices.Equal(got, want) {
		t.Fatalf("List(0): %s; want %s", show(got), show(want))
	}
}

// expectSame checks all that can be asked of an acceptor, at slots of all kinds.
func expectSame(t *testing.T, a *accept.Acceptor, p *plain) {
	t.Helper()
	expectState(t, a, p)
	for _, place := range places {
		if got, want := a.List(place), p.list(place); !slices.Equal(got, want) {
			t.Fatalf("List(%d): %s; want %s", place, show(got), show(want))
		}
		expectEntry(t, a, p, place)
	}
	for _, x := range p.l {
		expectEntry(t, a, p, x.Slot)
	}
}

// expectEntry checks what was accepted at a slot.
func expectEntry(t *testing.T, a *accept.Acceptor, p *plain, slot int) {
	t.Helper()
	x, is := a.Accepted(slot)
	want, wantIs := p.accepted(slot)
	if x != want || is != wantIs {
		t.Fatalf("Accepted(%d): %s, %t; want %s, %t", slot, show([]api.Entry{x}), is, show([]api.Entry{want}), wantIs)
	}
}

// expectPromise has a ballot promised by the acceptor and by what it has to be.
func expectPromise(t *testing.T, a *accept.Acceptor, p *plain, b api.Ballot, from int) api.Errno {
	t.Helper()
	got, e := a.Promise(b, from)
	want, wantE := p.promise(b, from)
	if !slices.Equal(got, want) || e != wantE {
		t.Fatalf("Promise(%v, %d): %s, %d; want %s, %d", b, from, show(got), e, show(want), wantE)
	}
	return e
}

// expectAccept has a value accepted by the acceptor and by what it has to be.
func expectAccept(t *testing.T, a *accept.Acceptor, p *plain, b api.Ballot, slot int, value string) api.Errno {
	t.Helper()
	e, want := a.Accept(b, slot, value), p.accept(b, slot, value)
	if e != want {
		t.Fatalf("Accept(%v, %d, %d bytes): %d, want %d", b, slot, len(value), e, want)
	}
	return e
}

// expectForget has slots forgotten by the acceptor and by what it has to be.
func expectForget(t *testing.T, a *accept.Acceptor, p *plain, upto int) api.Errno {
	t.Helper()
	e, want := a.Forget(upto), p.forget(upto)
	if e != want {
		t.Fatalf("Forget(%d): %d, want %d", upto, e, want)
	}
	return e
}

// fresh returns a new acceptor, and what it has to be.
func fresh(t *testing.T, n int) (*accept.Acceptor, *plain) {
	t.Helper()
	a, e := accept.New(n)
	if a == nil || e != api.OK {
		t.Fatalf("New(%d): %v, %d", n, a, e)
	}
	return a, &plain{n: n}
}

// filled returns an acceptor that has accepted some entries, in this order, and what it has to be.
func filled(t *testing.T, n int, l ...api.Entry) (*accept.Acceptor, *plain) {
	t.Helper()
	a, p := fresh(t, n)
	for _, x := range l {
		if e := expectAccept(t, a, p, x.B, x.Slot, x.Value); e != api.OK {
			t.Fatalf("Accept of %v: %d", x, e)
		}
	}
	return a, p
}

// kinds calls a function for acceptors of all kinds, of which each call gets its own: new ones, ones that have
// promised, accepted, and forgotten, of groups of all sizes.
func kinds(t *testing.T, do func(a *accept.Acceptor, p *plain)) {
	t.Helper()
	for n := 1; n <= mostNodes; n++ {
		do(fresh(t, n))
		a, p := fresh(t, n)
		expectPromise(t, a, p, bl(5, n/2), 0)
		do(a.Copy(), p.copy())
		for _, slot := range []int{0, 1, 2, 99, 100, 101, 4094, lastSlot} {
			expectAccept(t, a, p, bl(5, n/2), slot, fmt.Sprint("v", slot))
		}
		expectAccept(t, a, p, bl(5, n-1), 100, "again")
		do(a.Copy(), p.copy())
		for _, base := range []int{1, 100, lastSlot, lastSlot + 1} {
			expectForget(t, a, p, base)
			do(a.Copy(), p.copy())
		}
		expectPromise(t, a, p, bl(lastRound, n-1), 4096)
		do(a, p)
	}
}

// around are ballots below and above 5.0 to 5.6, the greatest ones, and ones that are not good in some or all groups.
func around() []api.Ballot {
	l := []api.Ballot{zero, bl(0, 1), bl(0, -1), bl(-1, 0), bl(1, 0), bl(4, 0), bl(4, 6), bl(6, 0), bl(6, 6), bl(lastRound-1, 0), bl(lastRound+1, 0), bl(1<<32+5, 0), bl(math.MinInt, 0), bl(math.MaxInt, 0), bl(5, 1<<32), bl(5, math.MinInt), bl(5, math.MaxInt), bl(math.MaxInt, math.MaxInt)}
	for node := -2; node <= mostNodes+1; node++ {
		l = append(l, bl(5, node), bl(lastRound, node))
	}
	return l
}

// P12.1 to P12.5: the chapter's examples.
func TestExamples(t *testing.T) {
	a, _ := fresh(t, 3)
	y := at(2, bl(3, 0), "y")
	told := func(l []api.Entry, e api.Errno) func(want api.Errno, entries ...api.Entry) {
		return func(want api.Errno, entries ...api.Entry) {
			t.Helper()
			if e != want || !slices.Equal(l, entries) {
				t.Errorf("%s, %d; want %s, %d", show(l), e, show(entries), want)
			}
		}
	}
	is := func(got, want any) {
		t.Helper()
		if got != want {
			t.Errorf("%v, want %v", got, want)
		}
	}
	told(a.Promise(bl(2, 1), 0))(api.OK)
	is(a.Accept(bl(1, 2), 0, "x"), api.ErrOrder)
	is(a.Accept(bl(2, 1), 0, "x"), api.OK)
	is(a.Accept(bl(3, 0), 2, "y"), api.OK)
	is(a.Promised(), bl(3, 0))
	x, have := a.Accepted(0)
	is(x, at(0, bl(2, 1), "x"))
	is(have, true)
	x, have = a.Accepted(1)
	is(x, nothing)
	is(have, false)
	told(a.Promise(bl(2, 2), 0))(api.ErrOrder)
	told(a.Promise(bl(3, 0), 1))(api.OK, y)
	is(a.Forget(1), api.OK)
	told(a.List(0), api.OK)(api.OK, y)
	is(a.Accept(bl(4, 0), 0, "z"), api.ErrRange)
	is(a.Base(), 1)
	told(a.Promise(zero, 0))(api.ErrArg)
	told(a.Promise(bl(1, 3), 0))(api.ErrArg)
	is(a.Accept(bl(5, 0), 4096, "x"), api.ErrArg)
	none, e := accept.New(8)
	is(none == nil, true)
	is(e, api.ErrArg)
}

// P12.1: New makes acceptors of groups of 1 to MaxNodes nodes; they have promised and accepted nothing.
func TestNew(t *testing.T) {
	for _, n := range counts {
		if n >= 1 && n <= mostNodes {
			a, p := fresh(t, n)
			expectSame(t, a, p)
			other, q := fresh(t, n)
			expectAccept(t, a, p, bl(1, 0), 0, "x")
			expectSame(t, a, p)
			expectSame(t, other, q)
		} else if a, e := accept.New(n); a != nil || e != api.ErrArg {
			t.Errorf("New(%d): %v, %d", n, a, e)
		}
	}
}

// P12.1: a copy is of the same group, and has promised, accepted and forgotten the same.
func TestCopy(t *testing.T) {
	kinds(t, func(a *accept.Acceptor, p *plain) {
		c, q := a.Copy(), p.copy()
		expectSame(t, c, q)
		for node := -1; node <= mostNodes; node++ {
			expectPromise(t, c.Copy(), q.copy(), bl(lastRound, node), 0)
		}
		expectSame(t, a, p)
	})
}

// P12.1, R8: the original and a copy go on alone, whatever is done with one of them.
func TestCopyAlone(t *testing.T) {
	changes := []func(a *accept.Acceptor, p *plain){
		func(a *accept.Acceptor, p *plain) { expectPromise(t, a, p, bl(6, 0), 0) },
		func(a *accept.Acceptor, p *plain) { expectAccept(t, a, p, bl(6, 0), 100, "other") },
		func(a *accept.Acceptor, p *plain) { expectAccept(t, a, p, bl(6, 0), 3, "more") },
		func(a *accept.Acceptor, p *plain) { expectForget(t, a, p, 100) },
		func(a *accept.Acceptor, p *plain) { expectForget(t, a, p, 4096) },
	}
	kinds(t, func(a *accept.Acceptor, p *plain) {
		for _, first := range changes {
			for _, then := range changes {
				x, u := a.Copy(), p.copy()
				y, v := x.Copy(), u.copy()
				z, w := y.Copy(), v.copy()
				first(y, v)
				then(z, w)
				expectState(t, x, u)
				expectState(t, y, v)
				expectState(t, z, w)
				first(x, u)
				expectState(t, y, v)
				expectState(t, z, w)
			}
		}
		expectSame(t, a, p)
	})
}

// P12.2, P12.8, R1: Promise names the first error that applies; then nothing changes. Otherwise it tells what was
// accepted from a slot on.
func TestPromise(t *testing.T) {
	kinds(t, func(a *accept.Acceptor, p *plain) {
		for _, b := range around() {
			for _, from := range places {
				c, q := a.Copy(), p.copy()
				expectPromise(t, c, q, b, from)
				expectState(t, c, q)
			}
		}
		expectSame(t, a, p)
	})
}

// P12.3, P12.8, R1: Accept names the first error that applies; then nothing changes. Otherwise the value is accepted,
// and its ballot is promised.
func TestAccept(t *testing.T) {
	kinds(t, func(a *accept.Acceptor, p *plain) {
		for _, b := range around() {
			for _, slot := range places {
				for _, value := range []string{"", "w", long} {
					c, q := a.Copy(), p.copy()
					expectAccept(t, c, q, b, slot, value)
					expectState(t, c, q)
				}
			}
		}
		expectSame(t, a, p)
	})
}

// P12.2, P12.3: in a group of n nodes, only the ballots of these nodes are good, in all rounds up to 2^30.
func TestGoodBallots(t *testing.T) {
	for n := 1; n <= mostNodes; n++ {
		for _, round := range []int{math.MinInt, -lastRound, -1, 0, 1, 2, 1 << 29, lastRound - 1, lastRound, lastRound + 1, 1 << 31, 1 << 32, 1<<32 + 1, math.MaxInt} {
			for _, node := range []int{math.MinInt, -1 << 32, -7, -1, 0, 1, 2, 3, 4, 5, 6, 7, 8, 1 << 32, math.MaxInt} {
				want, promised := api.ErrArg, zero
				if round >= 1 && round <= lastRound && node >= 0 && node < n {
					want, promised = api.OK, bl(round, node)
				}
				a, _ := fresh(t, n)
				if _, e := a.Promise(bl(round, node), 0); e != want || a.Promised() != promised {
					t.Errorf("%d nodes: Promise(%d.%d): %d, %v; want %d", n, round, node, e, a.Promised(), want)
				}
				a, _ = fresh(t, n)
				if e := a.Accept(bl(round, node), 0, "x"); e != want || a.Promised() != promised || (len(a.List(0)) == 1) != (want == api.OK) {
					t.Errorf("%d nodes: Accept(%d.%d): %d, %v; want %d", n, round, node, e, a.Promised(), want)
				}
			}
		}
	}
}

// P12.2, P12.3: of two good ballots, the one that comes second is heeded just if it is not below the first one, which
// was promised or accepted.
func TestBallotsInOrder(t *testing.T) {
	var l []api.Ballot
	for _, round := range []int{1, 2, 3, lastRound - 1, lastRound} {
		for node := range mostNodes {
			l = append(l, bl(round, node))
		}
	}
	for i, first := range l {
		for j, second := range l {
			want, promised := api.OK, second
			if j < i {
				want, promised = api.ErrOrder, first
			}
			for way := range 4 {
				a, _ := fresh(t, mostNodes)
				var e api.Errno
				if way%2 == 0 {
					_, e = a.Promise(first, 0)
				} else {
					e = a.Accept(first, 0, "x")
				}
				if e != api.OK {
					t.Fatalf("%v: %d", first, e)
				}
				if way < 2 {
					_, e = a.Promise(second, 0)
				} else {
					e = a.Accept(second, 1, "y")
				}
				if e != want || a.Promised() != promised {
					t.Errorf("%v, then %v (%d): %d, %v; want %d, %v", first, second, way, e, a.Promised(), want, promised)
				}
			}
		}
	}
}

// P12.3: values of all bytes and lengths up to MaxText, also of no bytes, are told as they were accepted; ones of one
// byte more and of many more are too long.
func TestValues(t *testing.T) {
	for i, value := range values {
		a, p := filled(t, 3, at(i, bl(2, 1), value))
		expectSame(t, a, p)
		expectPromise(t, a, p, bl(3, 0), 0)
		expectAccept(t, a, p, bl(3, 0), i, "other")
		expectAccept(t, a, p, bl(3, 2), i, value)
		expectSame(t, a, p)
		for _, wrong := range []string{long, long + long, strings.Repeat("\x00", 1<<20)} {
			if e := expectAccept(t, a, p, bl(4, 0), i, wrong); e != api.ErrLong {
				t.Errorf("%d bytes: %d", len(wrong), e)
			}
			expectSame(t, a, p)
		}
	}
}

// P12.3: an entry is replaced by the one that is accepted behind it at its slot, in the same ballot or a greater one.
func TestAcceptAgain(t *testing.T) {
	for _, slot := range []int{0, 1, 100, lastSlot} {
		a, p := filled(t, 3, at(slot, bl(2, 1), "first"))
		for _, x := range []api.Entry{at(slot, bl(2, 1), "first"), at(slot, bl(2, 1), "second"), at(slot, bl(2, 2), "second"), at(slot, bl(3, 0), ""), at(slot, bl(lastRound, 2), "last")} {
			if e := expectAccept(t, a, p, x.B, slot, x.Value); e != api.OK {
				t.Fatalf("Accept of %v: %d", x, e)
			}
			if got, is := a.Accepted(slot); got != x || !is {
				t.Errorf("Accepted: %v, %t; want %v", got, is, x)
			}
			expectSame(t, a, p)
			if e := expectAccept(t, a, p, bl(2, 0), slot, "late"); e != api.ErrOrder {
				t.Errorf("Accept of a late one: %d", e)
			}
			expectSame(t, a, p)
		}
	}
}

// P12.4, P12.5: whatever the order in which slots were accepted, List has all from a slot on, by their numbers; also all
// the slots that there are, each of them accepted more than once.
func TestAllSlots(t *testing.T) {
	r := rand.New(rand.NewSource(12))
	a, p := fresh(t, 7)
	for node := range 3 {
		p.promised, p.l = bl(1, node), nil
		for _, slot := range r.Perm(lastSlot + 1) {
			x := at(slot, p.promised, fmt.Sprint(slot+node))
			if e := a.Accept(x.B, x.Slot, x.Value); e != api.OK {
				t.Fatalf("Accept of %v: %d", x, e)
			}
			p.l = append(p.l, x)
		}
	}
	expectSame(t, a, p)
	for _, base := range []int{1, 2, 1000, 4094, lastSlot, lastSlot + 1} {
		expectForget(t, a, p, base)
		expectSame(t, a, p)
	}
}

// P12.4: List and Accepted with any number, where only few slots have something.
func TestFewSlots(t *testing.T) {
	for _, slots := range [][]int{{}, {0}, {lastSlot}, {lastSlot, 0}, {1, 4094}, {5, 3, 4}, {100, 99, 101, 2}} {
		var l []api.Entry
		for _, slot := range slots {
			l = append(l, at(slot, bl(1, 0), fmt.Sprint(slot)))
		}
		a, p := filled(t, 1, l...)
		expectSame(t, a, p)
		for from := -5; from <= lastSlot+5; from++ {
			if got, want := a.List(from), p.list(from); !slices.Equal(got, want) {
				t.Fatalf("List(%d): %s; want %s", from, show(got), show(want))
			}
			expectEntry(t, a, p, from)
		}
	}
}

// P12.5, P12.3: forgotten slots are gone for good; nothing happens up to the base, and nothing but ErrArg with numbers
// that are none of a log.
func TestForget(t *testing.T) {
	kinds(t, func(a *accept.Acceptor, p *plain) {
		for _, upto := range places {
			c, q := a.Copy(), p.copy()
			expectForget(t, c, q, upto)
			expectSame(t, c, q)
			for _, slot := range []int{upto - 1, upto, upto + 1, p.base - 1, p.base} {
				expectAccept(t, c, q, bl(lastRound, p.n-1), slot, "new")
			}
			expectSame(t, c, q)
			for _, then := range places {
				d, u := c.Copy(), q.copy()
				expectForget(t, d, u, then)
				expectState(t, d, u)
			}
		}
		expectSame(t, a, p)
	})
}

// P12.5: whatever is forgotten, the promise stays, and later ballots are promised.
func TestForgetKeepsPromise(t *testing.T) {
	for _, upto := range []int{0, 1, 2, 4095, 4096} {
		a, p := filled(t, 3, at(0, bl(2, 1), "x"), at(1, bl(3, 1), "y"))
		expectForget(t, a, p, upto)
		if e := expectPromise(t, a, p, bl(3, 0), 0); e != api.ErrOrder {
			t.Errorf("Promise of 3.0: %d", e)
		}
		if e := expectAccept(t, a, p, bl(3, 0), lastSlot, "z"); e != api.ErrOrder {
			t.Errorf("Accept of 3.0: %d", e)
		}
		expectState(t, a, p)
		if e := expectPromise(t, a, p, bl(3, 2), 0); e != api.OK {
			t.Errorf("Promise of 3.2: %d", e)
		}
		expectSame(t, a, p)
	}
}

// P12.2 to P12.5, P12.8: all courses of up to four calls out of some, with two acceptors that were one before.
func TestShortCourses(t *testing.T) {
	var calls []func(a *accept.Acceptor, p *plain)
	for _, b := range []api.Ballot{bl(1, 0), bl(1, 1), bl(2, 0), bl(1, 2)} {
		for slot := range 2 {
			calls = append(calls,
				func(a *accept.Acceptor, p *plain) { expectPromise(t, a, p, b, slot) },
				func(a *accept.Acceptor, p *plain) { expectAccept(t, a, p, b, slot, fmt.Sprint(b)) })
		}
	}
	for upto := range 3 {
		calls = append(calls, func(a *accept.Acceptor, p *plain) { expectForget(t, a, p, upto) })
	}
	var goOn func(a *accept.Acceptor, p *plain, left int)
	goOn = func(a *accept.Acceptor, p *plain, left int) {
		expectState(t, a, p)
		for slot := range 2 {
			expectEntry(t, a, p, slot)
		}
		if left == 0 {
			return
		}
		for _, call := range calls {
			c, q := a.Copy(), p.copy()
			call(c, q)
			goOn(c, q, left-1)
		}
		expectState(t, a, p)
	}
	a, p := fresh(t, 2)
	goOn(a, p, 4)
}

// expectGrowth checks that nothing has become smaller from one acceptor to what it is later, and that no entry has a
// ballot above the promised one.
func expectGrowth(t *testing.T, before, now *accept.Acceptor) {
	t.Helper()
	if isBelow(now.Promised(), before.Promised()) || now.Base() < before.Base() {
		t.Fatalf("promised %v, then %v; base %d, then %d", before.Promised(), now.Promised(), before.Base(), now.Base())
	}
	for _, x := range now.List(0) {
		if isBelow(now.Promised(), x.B) {
			t.Fatalf("%v is promised, but accepted was %v", now.Promised(), x)
		}
	}
	for _, x := range before.List(0) {
		y, is := now.Accepted(x.Slot)
		if isBelow(y.B, x.B) && is || !is && x.Slot >= now.Base() {
			t.Fatalf("accepted: %v, then %v, %t", x, y, is)
		}
	}
}

// course does a number of calls of all kinds, with ballots, slots and values of which many are not allowed.
func course(t *testing.T, r *rand.Rand, a *accept.Acceptor, p *plain, calls int) {
	t.Helper()
	some := append(slices.Clone(places), 10, 11, 12, 13, 14, 15, 16, 17, 18, 19, 20)
	for range calls {
		before := a.Copy()
		b := bl(p.promised.Round+r.Intn(4)-1, r.Intn(p.n+2)-1)
		place := some[r.Intn(len(some))]
		switch r.Intn(8) {
		case 0, 1:
			expectPromise(t, a, p, b, place)
		case 2:
			expectForget(t, a, p, min(place, p.base+r.Intn(8)-2))
		default:
			value := fmt.Sprint("v", r.Intn(1000))
			if r.Intn(10) == 0 {
				value = long
			}
			expectAccept(t, a, p, b, place, value)
		}
		expectState(t, a, p)
		expectGrowth(t, before, a)
	}
	expectSame(t, a, p)
}

// P12.1 to P12.6, P12.8: long courses of calls, with copies of which one goes on.
func TestLongCourses(t *testing.T) {
	for seed := range int64(140) {
		r := rand.New(rand.NewSource(seed))
		a, p := fresh(t, 1+int(seed)%mostNodes)
		for range 10 {
			c, q := a.Copy(), p.copy()
			course(t, r, c, q, 30)
			expectSame(t, a, p)
			course(t, r, a, p, 5)
			expectSame(t, c, q)
			if r.Intn(2) == 0 {
				a, p = c, q
			}
		}
	}
}

// attempt is a try of a node to have values chosen: in its ballot, for which some nodes have promised.
type attempt struct {
	b        api.Ballot
	promised map[int]bool // by nodes
	told     []api.Entry
	from     int // none of these nodes has forgotten a slot from here on
}

// vote is where a node accepts a value: at a slot, in a ballot.
type vote struct {
	slot int
	b    api.Ballot
}

// group is a group of acceptors, with messages between them that are functions: they may be lost, doubled, and come in
// any order.
type group struct {
	t        *testing.T
	r        *rand.Rand
	nodes    []*accept.Acceptor
	messages []func()
	tried    map[api.Ballot]bool
	votes    map[vote]map[int]bool
	chosen   map[int]string // by slots
	ballots  map[vote]bool  // in which something was chosen
}

const groupSlots = 3

func newGroup(t *testing.T, n int, seed int64) *group {
	t.Helper()
	g := &group{t: t, r: rand.New(rand.NewSource(seed)), tried: map[api.Ballot]bool{}, votes: map[vote]map[int]bool{}, chosen: map[int]string{}, ballots: map[vote]bool{}}
	for range n {
		a, _ := fresh(t, n)
		g.nodes = append(g.nodes, a)
	}
	return g
}

// send adds a message to those that may arrive.
func (g *group) send(m func()) {
	g.messages = append(g.messages, m)
}

// prepare asks all nodes to promise a ballot; only once, since there is one value at a slot in a ballot.
func (g *group) prepare(b api.Ballot) {
	if g.tried[b] {
		return
	}
	g.tried[b] = true
	x := &attempt{b: b, promised: map[int]bool{}}
	for node, a := range g.nodes {
		g.send(func() {
			if told, e := a.Promise(b, 0); e == api.OK {
				base := a.Base()
				g.send(func() { g.hear(x, node, told, base) })
			}
		})
	}
}

// hear adds a promise to a try; once a majority has promised, it proposes a value for each slot: that of the greatest
// ballot that was told, or else its own.
func (g *group) hear(x *attempt, node int, told []api.Entry, base int) {
	if x.promised[node] || 2*len(x.promised) > len(g.nodes) {
		return
	}
	x.promised[node] = true
	x.told = append(x.told, told...)
	x.from = max(x.from, base)
	if 2*len(x.promised) <= len(g.nodes) {
		return
	}
	for slot := x.from; slot < groupSlots; slot++ {
		best := at(slot, zero, fmt.Sprintf("%d.%d at %d", x.b.Round, x.b.Node, slot))
		for _, y := range x.told {
			if y.Slot == slot && isBelow(best.B, y.B) {
				best = y
			}
		}
		for node, a := range g.nodes {
			g.send(func() {
				if a.Accept(x.b, slot, best.Value) == api.OK {
					g.count(vote{slot, x.b}, node, best.Value)
				}
			})
		}
	}
}

// count adds what a node has accepted; what a majority has accepted in one ballot is chosen.
func (g *group) count(v vote, node int, value string) {
	if g.votes[v] == nil {
		g.votes[v] = map[int]bool{}
	}
	g.votes[v][node] = true
	if 2*len(g.votes[v]) <= len(g.nodes) {
		return
	}
	if before, is := g.chosen[v.slot]; is && before != value {
		g.t.Fatalf("%d nodes: at %d, %q was chosen, and in %v %q", len(g.nodes), v.slot, before, v.b, value)
	}
	g.chosen[v.slot] = value
	g.ballots[v] = true
}

// run lets messages arrive, and tries begin, in any order.
func (g *group) run(tries int) {
	for round := 1; round <= tries; {
		i := g.r.Intn(len(g.messages) + 1)
		if i == len(g.messages) || g.r.Intn(40) == 0 {
			g.prepare(bl(max(1, round-g.r.Intn(2)), g.r.Intn(len(g.nodes))))
			round++
			continue
		}
		m := g.messages[i]
		if g.r.Intn(10) > 0 { // otherwise it stays, and may arrive again
			g.messages = slices.Delete(g.messages, i, i+1)
		}
		if g.r.Intn(10) > 0 { // otherwise it is lost
			m()
		}
		if g.r.Intn(50) == 0 {
			if e := g.nodes[g.r.Intn(len(g.nodes))].Forget(g.r.Intn(groupSlots)); e != api.OK {
				g.t.Fatalf("Forget: %d", e)
			}
		}
	}
}

// P12.7: whatever is lost, doubled or late, and whoever tries, all values that a majority has accepted at a slot in one
// ballot are equal. A slot that is forgotten by one of those who promised gets no value, since nothing is told of it.
func TestAgreement(t *testing.T) {
	chosen, again := 0, 0
	for seed := range int64(3_000) {
		g := newGroup(t, 1+int(seed)%mostNodes, seed)
		g.run(12)
		chosen += len(g.chosen)
		again += len(g.ballots) - len(g.chosen)
	}
	if chosen < 1_000 || again < 1_000 {
		t.Errorf("%d values were chosen, and %d times again in other ballots", chosen, again)
	}
}

// R2: an acceptor that New did not make is not valid, for calls of all kinds and before all other errors.
func TestNotValid(t *testing.T) {
	for _, a := range []*accept.Acceptor{nil, {}, new(accept.Acceptor)} {
		for _, b := range around() {
			for _, place := range places {
				if l, e := a.Promise(b, place); len(l) != 0 || e != api.ErrNil {
					t.Errorf("Promise(%v, %d): %v, %d", b, place, l, e)
				}
				for _, value := range []string{"", long} {
					if e := a.Accept(b, place, value); e != api.ErrNil {
						t.Errorf("Accept(%v, %d, %d bytes): %d", b, place, len(value), e)
					}
				}
			}
		}
		for _, place := range places {
			x, is := a.Accepted(place)
			if x != nothing || is || len(a.List(place)) != 0 {
				t.Errorf("Accepted, List of %d: %v, %t; %v", place, x, is, a.List(place))
			}
			if e := a.Forget(place); e != api.ErrNil {
				t.Errorf("Forget(%d): %d", place, e)
			}
		}
		if a.Promised() != zero || a.Base() != 0 || a.Copy() != nil {
			t.Errorf("Promised, Base, Copy: %v, %d, %v", a.Promised(), a.Base(), a.Copy())
		}
	}
}

// R4: results are new memory.
func TestMemory(t *testing.T) {
	a, p := filled(t, 3, at(0, bl(2, 1), "x"), at(2, bl(3, 0), "y"), at(7, bl(3, 2), "z"))
	lists := []func() []api.Entry{
		func() []api.Entry { return a.List(0) },
		func() []api.Entry { l, _ := a.Promise(bl(3, 2), 0); return l },
	}
	for _, first := range lists {
		for _, second := range lists {
			l, m := first(), second()
			for i := range l {
				l[i] = at(9, bl(9, 9), "other")
			}
			_ = append(l[:1], at(8, bl(8, 8), "more"))
			if !slices.Equal(m, p.list(0)) {
				t.Errorf("two results share memory: %v", m)
			}
			expectSame(t, a, p)
		}
	}
}

// R8: acceptors in equal states answer equally, whatever led there.
func TestSameAgain(t *testing.T) {
	all := func(a *accept.Acceptor) string {
		text := fmt.Sprint(a.Promised(), a.Base(), a.List(0))
		for _, place := range places {
			x, is := a.Accepted(place)
			l, e := a.Copy().Promise(bl(9, 2), place)
			text += fmt.Sprint(x, is, a.List(place), l, e, a.Copy().Forget(place), a.Copy().Accept(bl(9, 2), place, "x"))
		}
		return text
	}
	var first string
	for seed := range int64(20) {
		r := rand.New(rand.NewSource(seed))
		a, p := fresh(t, 3)
		for _, slot := range r.Perm(110) {
			expectAccept(t, a, p, bl(1, 0), slot, "old")
		}
		expectForget(t, a, p, r.Intn(5))
		for _, slot := range r.Perm(110) {
			expectAccept(t, a, p, bl(1, 1), slot, fmt.Sprint(slot))
		}
		expectForget(t, a, p, 5)
		if got := all(a); seed == 0 {
			first = got
		} else if got != first {
			t.Errorf("%s, then %s", first, got)
		}
		if got := all(a.Copy()); got != first {
			t.Errorf("%s, but the copy %s", first, got)
		}
	}
}

package learn_test

import (
	"fmt"
	"math"
	"math/rand"
	"slices"
	"strings"
	"testing"

	"skald/accept"
	"skald/api"
	"skald/learn"
)

const (
	lastSlot  = 4095
	lastRound = 1 << 30
	mostNodes = 7
)

var zero api.Ballot

// Numbers in and around what is allowed, and far away.
var (
	counts = []int{math.MinInt, -1 << 32, -7, -1, 0, 1, 2, 3, 4, 5, 6, 7, 8, 9, 63, 64, 65, 1 << 32, 1<<32 + 1, 1<<32 + 7, math.MaxInt}
	places = []int{math.MinInt, math.MinInt + 1, -1 << 32, -4096, -2, -1, 0, 1, 2, 3, 4, 5, 99, 100, 101, 102, 103, 4094, 4095, 4096, 4097, 4098, 1 << 32, 1<<32 + 1, math.MaxInt - 1, math.MaxInt}
)

// values are allowed, up to the longest one; the one in long is not.
var (
	values = []string{"", "x", "\x00", "\xff\xfe", "äöü", strings.Repeat("v", 65535), strings.Repeat("v", 65536)}
	long   = strings.Repeat("v", 65537)
)

// bl returns a ballot.
func bl(round, node int) api.Ballot { return api.Ballot{Round: round, Node: node} }

// set returns the set of some nodes.
func set(nodes ...int) uint64 {
	var s uint64
	for _, node := range nodes {
		s |= 1 << node
	}
	return s
}

// vote is that a node has accepted a value at a slot, in a ballot.
type vote struct {
	node  int
	b     api.Ballot
	slot  int
	value string
}

// choice is a value that is chosen at a slot.
type choice struct {
	slot  int
	value string
}

// plain is a learner as the chapter defines it. It remembers all votes that were ever kept, and looks for those of the
// greatest ballot when it is asked.
type plain struct {
	n, base int
	votes   []vote
	choices []choice
}

func (p *plain) copy() *plain {
	return &plain{p.n, p.base, slices.Clone(p.votes), slices.Clone(p.choices)}
}

func (p *plain) isVote(v vote) bool {
	return v.node >= 0 && v.node < p.n && v.b.Round >= 1 && v.b.Round <= 1<<30 && v.b.Node >= 0 && v.b.Node < p.n && v.slot >= 0 && v.slot <= 4095
}

func isBelow(a, b api.Ballot) bool {
	return a.Round < b.Round || a.Round == b.Round && a.Node < b.Node
}

// kept returns the ballot, the value and the nodes of the votes that are kept at a slot.
func (p *plain) kept(slot int) (api.Ballot, string, uint64) {
	b, value, nodes := zero, "", uint64(0)
	for _, v := range p.votes {
		if v.slot == slot && isBelow(b, v.b) {
			b, value = v.b, v.value
		}
	}
	for _, v := range p.votes {
		if v.slot == slot && v.b == b {
			nodes |= set(v.node)
		}
	}
	return b, value, nodes
}

func (p *plain) chosen(slot int) (string, bool) {
	for _, c := range p.choices {
		if c.slot == slot {
			return c.value, true
		}
	}
	return "", false
}

func (p *plain) add(v vote) (bool, api.Errno) {
	b, value, _ := p.kept(v.slot)
	chosen, is := p.chosen(v.slot)
	switch {
	case !p.isVote(v):
		return false, api.ErrArg
	case len(v.value) > 65536:
		return false, api.ErrLong
	case v.slot < p.base:
		return false, api.ErrOrder
	case isBelow(v.b, b):
		return false, api.OK
	case v.b == b && v.value != value, is && v.value != chosen:
		return false, api.ErrState
	}
	p.votes = append(p.votes, v)
	_, _, nodes := p.kept(v.slot)
	if is || 2*strings.Count(fmt.Sprintf("%b", nodes), "1") <= p.n {
		return false, api.OK
	}
	p.choices = append(p.choices, choice{v.slot, v.value})
	return true, api.OK
}

func (p *plain) learn(slot int, value string) api.Errno {
	chosen, is := p.chosen(slot)
	switch {
	case slot < 0, slot > 4095:
		return api.ErrArg
	case len(value) > 65536:
		return api.ErrLong
	case slot < p.base:
		return api.ErrOrder
	case is && chosen != value:
		return api.ErrState
	case !is:
		p.choices = append(p.choices, choice{slot, value})
	}
	return api.OK
}

func (p *plain) upto() int {
	have := map[int]bool{}
	for _, c := range p.choices {
		have[c.slot] = true
	}
	for slot := p.base; slot < 4096; slot++ {
		if !have[slot] {
			return slot
		}
	}
	return 4096
}

func (p *plain) open() []int {
	have := map[int]bool{}
	for _, c := range p.choices {
		have[c.slot] = true
	}
	var l []int
	for _, v := range p.votes {
		if !have[v.slot] {
			l = append(l, v.slot)
		}
	}
	slices.Sort(l)
	return slices.Compact(l)
}

func (p *plain) forget(upto int) api.Errno {
	if upto < 0 || upto > 4096 {
		return api.ErrRange
	}
	if upto > p.base {
		p.base = upto
		p.votes = slices.DeleteFunc(p.votes, func(v vote) bool { return v.slot < upto })
		p.choices = slices.DeleteFunc(p.choices, func(c choice) bool { return c.slot < upto })
	}
	return api.OK
}

// expectSlot checks what the learner knows of a slot.
func expectSlot(t *testing.T, l *learn.Learner, p *plain, slot int) {
	t.Helper()
	value, is := l.Chosen(slot)
	wantValue, wantIs := p.chosen(slot)
	if value != wantValue || is != wantIs {
		t.Fatalf("Chosen(%d): %.9q (%d bytes), %t; want %.9q (%d bytes), %t", slot, value, len(value), is, wantValue, len(wantValue), wantIs)
	}
	b, nodes := l.Votes(slot)
	wantB, _, wantNodes := p.kept(slot)
	if b != wantB || nodes != wantNodes {
		t.Fatalf("Votes(%d): %v, %b; want %v, %b", slot, b, nodes, wantB, wantNodes)
	}
}

// expectState checks Upto and Open, and what the learner knows of some slots.
func expectState(t *testing.T, l *learn.Learner, p *plain, slots ...int) {
	t.Helper()
	if upto := l.Upto(); upto != p.upto() {
		t.Fatalf("Upto: %d, want %d", upto, p.upto())
	}
	if open := l.Open(); !slices.Equal(open, p.open()) {
		t.Fatalf("Open: %v, want %v", open, p.open())
	}
	for _, slot := range slots {
		expectSlot(t, l, p, slot)
	}
}

// expectSame checks all that can be asked of a learner, at slots of all kinds.
func expectSame(t *testing.T, l *learn.Learner, p *plain) {
	t.Helper()
	expectState(t, l, p, places...)
	for _, v := range p.votes {
		expectSlot(t, l, p, v.slot)
	}
	for _, c := range p.choices {
		expectSlot(t, l, p, c.slot)
	}
}

// expectAdd has a vote added by the learner and by what it has to be.
func expectAdd(t *testing.T, l *learn.Learner, p *plain, v vote) (bool, api.Errno) {
	t.Helper()
	is, e := l.Add(v.node, v.b, v.slot, v.value)
	wantIs, want := p.add(v)
	if is != wantIs || e != want {
		t.Fatalf("%d nodes: Add(%d, %v, %d, %.9q (%d bytes)): %t, %d; want %t, %d", p.n, v.node, v.b, v.slot, v.value, len(v.value), is, e, wantIs, want)
	}
	return is, e
}

// expectLearn has a value learned by the learner and by what it has to be.
func expectLearn(t *testing.T, l *learn.Learner, p *plain, slot int, value string) api.Errno {
	t.Helper()
	e, want := l.Learn(slot, value), p.learn(slot, value)
	if e != want {
		t.Fatalf("Learn(%d, %.9q (%d bytes)): %d, want %d", slot, value, len(value), e, want)
	}
	return e
}

// expectForget has slots forgotten by the learner and by what it has to be.
func expectForget(t *testing.T, l *learn.Learner, p *plain, upto int) {
	t.Helper()
	if e, want := l.Forget(upto), p.forget(upto); e != want {
		t.Fatalf("Forget(%d): %d, want %d", upto, e, want)
	}
}

// fresh returns a new learner, and what it has to be.
func fresh(t *testing.T, n int) (*learn.Learner, *plain) {
	t.Helper()
	l, e := learn.New(n)
	if l == nil || e != api.OK {
		t.Fatalf("New(%d): %v, %d", n, l, e)
	}
	return l, &plain{n: n}
}

// kinds calls a function for learners of all kinds, of which each call gets its own: new ones, and ones that were told
// of votes and of values that are chosen, and have forgotten some of it, of groups of all sizes. At slot 100 there is a
// vote, for "v"; at 101 too, but "w" was learned there; at 102 "v" was learned without votes.
func kinds(t *testing.T, do func(l *learn.Learner, p *plain)) {
	t.Helper()
	for n := 1; n <= mostNodes; n++ {
		do(fresh(t, n))
		l, p := fresh(t, n)
		for _, slot := range []int{0, 2, 100, 101, lastSlot} {
			expectAdd(t, l, p, vote{n / 2, bl(5, n/2), slot, "v"})
		}
		expectLearn(t, l, p, 101, "w")
		do(l.Copy(), p.copy())
		for node := range n {
			expectAdd(t, l, p, vote{node, bl(5, n/2), 0, "v"})
		}
		for _, slot := range []int{1, 3, 102, 4094} {
			expectLearn(t, l, p, slot, "v")
		}
		do(l.Copy(), p.copy())
		for _, base := range []int{1, 3, 100, lastSlot, lastSlot + 1} {
			expectForget(t, l, p, base)
			do(l.Copy(), p.copy())
		}
	}
}

// disputed returns a learner that keeps a vote for "v" at slot 0, where "w" was learned. (In a group of one node there
// is none: its vote is a majority.)
func disputed(t *testing.T, n int) (*learn.Learner, *plain) {
	t.Helper()
	l, p := fresh(t, n)
	expectAdd(t, l, p, vote{0, bl(5, 0), 0, "v"})
	expectLearn(t, l, p, 0, "w")
	return l, p
}

// around are ballots below and above 5.0 to 5.6, the greatest ones, and ones that are not good in some or all groups.
func around() []api.Ballot {
	l := []api.Ballot{zero, bl(0, 1), bl(0, -1), bl(-1, 0), bl(1, 0), bl(4, 0), bl(4, 6), bl(6, 0), bl(6, 6), bl(lastRound-1, 0), bl(lastRound+1, 0), bl(1<<32+5, 0), bl(math.MinInt, 0), bl(math.MaxInt, 0), bl(5, 1<<32), bl(5, math.MinInt), bl(5, math.MaxInt), bl(math.MaxInt, math.MaxInt)}
	for node := -2; node <= mostNodes+1; node++ {
		l = append(l, bl(5, node), bl(lastRound, node))
	}
	return l
}

// is checks that something is what it has to be.
func is[T comparable](t *testing.T, got, want T) {
	t.Helper()
	if got != want {
		t.Errorf("%v, want %v", got, want)
	}
}

// P13.2 to P13.6: the chapter's examples.
func TestExamples(t *testing.T) {
	l, _ := fresh(t, 3)
	b, c := bl(1, 0), bl(2, 1)
	add := func(node int, b api.Ballot, slot int, value string, wantIs bool, want api.Errno) {
		t.Helper()
		got, e := l.Add(node, b, slot, value)
		is(t, got, wantIs)
		is(t, e, want)
	}
	votes := func(slot int, wantB api.Ballot, want uint64) {
		t.Helper()
		got, nodes := l.Votes(slot)
		is(t, got, wantB)
		is(t, nodes, want)
	}
	chosen := func(slot int, want string, wantIs bool) {
		t.Helper()
		value, got := l.Chosen(slot)
		is(t, value, want)
		is(t, got, wantIs)
	}
	add(0, c, 4, "y", false, api.OK)
	add(1, b, 4, "x", false, api.OK)
	votes(4, c, set(0))
	add(0, c, 4, "y", false, api.OK)
	add(2, c, 4, "x", false, api.ErrState)
	is(t, fmt.Sprint(l.Open()), "[4]")
	add(2, c, 4, "y", true, api.OK)
	chosen(4, "y", true)
	is(t, len(l.Open()), 0)
	is(t, l.Upto(), 0)
	add(1, c, 4, "y", false, api.OK)
	votes(4, c, set(0, 1, 2))
	is(t, l.Learn(0, "z"), api.OK)
	is(t, l.Learn(0, "w"), api.ErrState)
	is(t, l.Upto(), 1)
	is(t, l.Forget(4), api.OK)
	is(t, l.Upto(), 5)
	chosen(0, "", false)
	add(0, c, 3, "y", false, api.ErrOrder)
	add(3, c, 5, "y", false, api.ErrArg)
	add(0, zero, 5, "y", false, api.ErrArg)
	is(t, l.Forget(5000), api.ErrRange)
}

// P13.1: New makes learners of groups of 1 to MaxNodes nodes, which know nothing.
func TestNew(t *testing.T) {
	for _, n := range counts {
		if n >= 1 && n <= mostNodes {
			l, p := fresh(t, n)
			expectSame(t, l, p)
			other, q := fresh(t, n)
			expectAdd(t, l, p, vote{0, bl(1, 0), 0, "x"})
			expectForget(t, l, p, 3)
			expectLearn(t, l, p, 3, "x")
			expectSame(t, l, p)
			expectSame(t, other, q)
		} else if l, e := learn.New(n); l != nil || e != api.ErrArg {
			t.Errorf("New(%d): %v, %d", n, l, e)
		}
	}
}

// P13.1: a copy is of the same group, and knows, keeps and has forgotten the same.
func TestCopy(t *testing.T) {
	kinds(t, func(l *learn.Learner, p *plain) {
		c, q := l.Copy(), p.copy()
		expectSame(t, c, q)
		for node := -1; node <= mostNodes; node++ {
			for _, slot := range []int{0, 2, 100, 101, 102, lastSlot} {
				for _, value := range []string{"v", "w"} {
					expectAdd(t, c.Copy(), q.copy(), vote{node, bl(5, p.n/2), slot, value})
				}
			}
		}
		expectSame(t, l, p)
	})
}

// P13.1, R8: the original and a copy go on alone, whatever is done with one of them.
func TestCopyAlone(t *testing.T) {
	changes := []func(l *learn.Learner, p *plain){
		func(l *learn.Learner, p *plain) { expectAdd(t, l, p, vote{0, bl(5, p.n/2), 100, "v"}) },
		func(l *learn.Learner, p *plain) { expectAdd(t, l, p, vote{p.n - 1, bl(6, 0), 100, "other"}) },
		func(l *learn.Learner, p *plain) { expectAdd(t, l, p, vote{0, bl(1, 0), 5, "more"}) },
		func(l *learn.Learner, p *plain) { expectLearn(t, l, p, 100, "learned") },
		func(l *learn.Learner, p *plain) { expectLearn(t, l, p, 4, "learned") },
		func(l *learn.Learner, p *plain) { expectForget(t, l, p, 101) },
		func(l *learn.Learner, p *plain) { expectForget(t, l, p, 4096) },
	}
	slots := []int{0, 4, 5, 100, 101, lastSlot}
	kinds(t, func(l *learn.Learner, p *plain) {
		for _, first := range changes {
			for _, then := range changes {
				x, u := l.Copy(), p.copy()
				y, v := x.Copy(), u.copy()
				z, w := y.Copy(), v.copy()
				first(y, v)
				then(z, w)
				expectState(t, x, u, slots...)
				expectState(t, y, v, slots...)
				expectState(t, z, w, slots...)
				first(x, u)
				expectState(t, y, v, slots...)
				expectState(t, z, w, slots...)
			}
		}
		expectSame(t, l, p)
	})
}

// P13.2, R1: Add names the first error that applies; then nothing changes. Otherwise the vote is kept, unless one of a
// greater ballot is.
func TestAdd(t *testing.T) {
	kinds(t, func(l *learn.Learner, p *plain) {
		for _, b := range around() {
			for _, slot := range places {
				for _, node := range []int{-1, 0, p.n / 2, p.n - 1, p.n} {
					for _, value := range []string{"", "v", "w", long} {
						c, q := l.Copy(), p.copy()
						expectAdd(t, c, q, vote{node, b, slot, value})
						expectSlot(t, c, q, slot)
						if node == 0 {
							expectState(t, c, q, 0, 100)
						}
					}
				}
			}
		}
		expectSame(t, l, p)
	})
}

// P13.2: in a group of n nodes, only the votes of these nodes in ballots of these nodes are ones, in all rounds up to
// 2^30.
func TestVotes(t *testing.T) {
	for n := 1; n <= mostNodes; n++ {
		for _, node := range counts {
			l, p := fresh(t, n)
			expectAdd(t, l, p, vote{node, bl(1, 0), 0, "x"})
			expectState(t, l, p, 0)
			for _, round := range []int{math.MinInt, -lastRound, -1, 0, 1, 2, 1 << 29, lastRound - 1, lastRound, lastRound + 1, 1 << 31, 1 << 32, 1<<32 + 1, math.MaxInt} {
				want, b, nodes := api.ErrArg, zero, set()
				if round >= 1 && round <= lastRound && node >= 0 && node < n {
					want, b, nodes = api.OK, bl(round, node), set(n-1)
				}
				l, _ := fresh(t, n)
				chosen, e := l.Add(n-1, bl(round, node), 7, "x")
				if gotB, got := l.Votes(7); e != want || chosen != (want == api.OK && n == 1) || gotB != b || got != nodes {
					t.Errorf("%d nodes: Add in %d.%d: %t, %d; then %v, %b; want %d", n, round, node, chosen, e, gotB, got, want)
				}
			}
		}
	}
}

// P13.2: of two votes of one node in two ballots, the one in the greater ballot is kept, whichever comes first; what
// they are for does not matter, but for two in one ballot it has to be one value.
func TestBallotsInOrder(t *testing.T) {
	var ballots []api.Ballot
	for _, round := range []int{1, 2, 3, lastRound - 1, lastRound} {
		for node := range mostNodes {
			ballots = append(ballots, bl(round, node))
		}
	}
	for i, first := range ballots {
		for j, second := range ballots {
			for _, value := range []string{"x", "y", ""} {
				l, _ := fresh(t, mostNodes)
				if chosen, e := l.Add(3, first, 9, "x"); chosen || e != api.OK {
					t.Fatalf("%v: %t, %d", first, chosen, e)
				}
				want, b, nodes := api.OK, ballots[max(i, j)], set(3)
				switch {
				case i == j && value != "x":
					want = api.ErrState
				case i == j:
					nodes = set(3, 5)
				case i < j:
					nodes = set(5)
				}
				chosen, e := l.Add(5, second, 9, value)
				if gotB, got := l.Votes(9); chosen || e != want || gotB != b || got != nodes {
					t.Errorf("%v, then %v, %q: %t, %d; %v, %b; want %d, %v, %b", first, second, value, chosen, e, gotB, got, want, b, nodes)
				}
			}
		}
	}
}

// P13.2, P13.3: values of all bytes and lengths up to MaxText, also of no bytes, are told as they were accepted or
// learned; ones of one byte more and of many more are too long.
func TestValues(t *testing.T) {
	for i, value := range values {
		l, p := fresh(t, 3)
		expectAdd(t, l, p, vote{0, bl(2, 1), i, value})
		is(t, l.Upto(), 0)
		for j, other := range values {
			expectAdd(t, l.Copy(), p.copy(), vote{1, bl(2, 1), i, other})
			expectLearn(t, l.Copy(), p.copy(), i, other)
			expectLearn(t, l, p, 100+j, other)
			expectLearn(t, l, p, 100+j, value)
		}
		for _, wrong := range []string{long, long + long, strings.Repeat("\x00", 1<<20)} {
			for slot := range 2 * len(values) {
				_, e := expectAdd(t, l, p, vote{2, bl(4, 0), slot, wrong})
				is(t, e, api.ErrLong)
				is(t, expectLearn(t, l, p, slot, wrong), api.ErrLong)
			}
		}
		expectAdd(t, l, p, vote{2, bl(2, 1), i, value})
		expectSame(t, l, p)
		for _, other := range values {
			expectAdd(t, l, p, vote{1, bl(3, 1), i, other})
			expectLearn(t, l, p, i, other)
		}
		expectSame(t, l, p)
	}
}

// P13.3, R1: Learn names the first error that applies; then nothing changes. Otherwise the value is chosen, and the
// votes stay.
func TestLearn(t *testing.T) {
	kinds(t, func(l *learn.Learner, p *plain) {
		for _, slot := range places {
			for _, value := range []string{"", "v", "w", long} {
				c, q := l.Copy(), p.copy()
				expectLearn(t, c, q, slot, value)
				expectSame(t, c, q)
				for _, then := range []string{"", "v", "w"} {
					expectLearn(t, c, q, slot, then)
					expectState(t, c, q, slot)
				}
			}
		}
		expectSame(t, l, p)
	})
}

// P13.2, P13.3, P13.4: where one value was learned, and the votes that are kept are for another one, these stay, no
// majority of them is counted any more, and only votes for the chosen value take their place.
func TestDisputed(t *testing.T) {
	for n := 2; n <= mostNodes; n++ {
		l, p := disputed(t, n)
		for node := range n {
			for _, b := range []api.Ballot{bl(4, 0), bl(5, 0), bl(6, 0)} {
				for _, value := range []string{"", "v", "w"} {
					c, q := l.Copy(), p.copy()
					for other := range n {
						expectAdd(t, c, q, vote{(node + other) % n, b, 0, value})
						expectState(t, c, q, 0)
						is(t, expectLearn(t, c, q, 0, "v"), api.ErrState)
						is(t, expectLearn(t, c, q, 0, "w"), api.OK)
						expectState(t, c, q, 0)
					}
				}
			}
		}
		expectSame(t, l, p)
	}
	l, p := disputed(t, 3)
	_, e := expectAdd(t, l, p, vote{1, bl(5, 0), 0, "v"})
	is(t, e, api.ErrState) // another value is chosen
	_, e = expectAdd(t, l, p, vote{1, bl(5, 0), 0, "w"})
	is(t, e, api.ErrState) // the ballot is the one that is kept, with another value
	_, e = expectAdd(t, l, p, vote{1, bl(4, 2), 0, "other"})
	is(t, e, api.OK) // a ballot below the one that is kept does not matter
	b, nodes := l.Votes(0)
	is(t, b, bl(5, 0))
	is(t, nodes, set(0))
}

// orders calls a function for all orders of the numbers from 0 to n - 1.
func orders(n int, do func(order []int)) {
	var order []int
	var goOn func()
	goOn = func() {
		if len(order) == n {
			do(order)
		}
		for i := range n {
			if !slices.Contains(order, i) {
				order = append(order, i)
				goOn()
				order = order[:len(order)-1]
			}
		}
	}
	goOn()
}

// P13.2, P13.7: in whichever order the nodes of a group have accepted, the value is chosen just when more than half of
// them have; this is told once. Votes that come twice, and ones in smaller ballots, do not matter.
func TestMajorities(t *testing.T) {
	for n := 1; n <= mostNodes; n++ {
		orders(n, func(order []int) {
			l, _ := fresh(t, n)
			for i, node := range order {
				for again := range 3 {
					chosen, e := l.Add(node, bl(2, n-1), 8, "x")
					if chosen != (2*i <= n && 2*(i+1) > n && again == 0) || e != api.OK {
						t.Fatalf("%v: the vote %d of %d: %t, %d", order, again, node, chosen, e)
					}
					value, isChosen := l.Chosen(8)
					b, nodes := l.Votes(8)
					if isChosen != (2*(i+1) > n) || isChosen != (value == "x") || b != bl(2, n-1) || nodes != set(order[:i+1]...) {
						t.Fatalf("%v: %q, %t; %v, %b after %d", order, value, isChosen, b, nodes, node)
					}
					if open := l.Open(); (len(open) == 0) != isChosen || len(open) > 1 || len(open) == 1 && open[0] != 8 {
						t.Fatalf("%v: open are %v after %d", order, open, node)
					}
					for _, old := range []string{"x", "y"} {
						if chosen, e := l.Add(order[0], bl(1, 0), 8, old); chosen || e != api.OK {
							t.Fatalf("%v: %q in a smaller ballot: %t, %d", order, old, chosen, e)
						}
					}
				}
			}
		})
	}
}

// P13.2, P13.7: votes of different ballots are not counted together, nor ones of different slots.
func TestNotTogether(t *testing.T) {
	for n := 2; n <= mostNodes; n++ {
		l, p := fresh(t, n)
		for round := 1; round <= 5; round++ {
			for slot := range 5 {
				for node := range n / 2 {
					chosen, _ := expectAdd(t, l, p, vote{(node + round + slot) % n, bl(round, (slot+round)%n), slot, "x"})
					is(t, chosen, false)
				}
			}
			expectSame(t, l, p)
		}
		is(t, len(l.Open()), 5)
		for slot := range 5 {
			for node := range n {
				expectAdd(t, l, p, vote{node, bl(5, (slot+5)%n), slot, "x"})
				expectSame(t, l, p)
			}
		}
		is(t, l.Upto(), 5)
	}
}

// P13.2, P13.8: votes for the chosen value in greater ballots are kept, and tell nothing new; others are refused.
func TestChosenStays(t *testing.T) {
	for n := 1; n <= mostNodes; n++ {
		l, p := fresh(t, n)
		for node := range n/2 + 1 {
			expectAdd(t, l, p, vote{node, bl(2, 0), 1, "x"})
		}
		for round := 3; round <= 5; round++ {
			for node := range n {
				_, e := expectAdd(t, l, p, vote{node, bl(round, 0), 1, "y"})
				is(t, e, api.ErrState)
				expectState(t, l, p, 1)
				chosen, e := expectAdd(t, l, p, vote{node, bl(round, 0), 1, "x"})
				is(t, chosen, false)
				is(t, e, api.OK)
				expectState(t, l, p, 1)
				value, isChosen := l.Chosen(1)
				is(t, value, "x")
				is(t, isChosen, true)
			}
		}
	}
}

// P13.4, P13.5, P13.9: whatever the order in which slots are chosen, Upto is the first one that is not; Open has those
// with votes only, by their numbers.
func TestUptoOpen(t *testing.T) {
	for _, base := range []int{0, 1, 2} {
		orders(5, func(order []int) {
			l, p := fresh(t, 3)
			expectForget(t, l, p, base)
			for i, slot := range order {
				slot += base
				expectAdd(t, l, p, vote{1, bl(1, 1), slot, "v"})
				expectAdd(t, l, p, vote{1, bl(1, 1), slot + 4, "v"})
				expectState(t, l, p, slot)
				if i%2 == 0 {
					expectLearn(t, l, p, slot, "v")
				} else {
					expectAdd(t, l, p, vote{2, bl(1, 1), slot, "v"})
				}
				expectState(t, l, p, slot)
			}
		})
	}
}

// P13.2 to P13.6: all slots that there are, with votes, and then chosen, in any order.
func TestAllSlots(t *testing.T) {
	r := rand.New(rand.NewSource(13))
	l, _ := fresh(t, 2)
	all := make([]int, 4096)
	for slot := range all {
		all[slot] = slot
	}
	for _, slot := range r.Perm(4096) {
		if chosen, e := l.Add(0, bl(1, 0), slot, fmt.Sprint(slot)); chosen || e != api.OK {
			t.Fatalf("Add at %d: %t, %d", slot, chosen, e)
		}
	}
	if !slices.Equal(l.Open(), all) || l.Upto() != 0 {
		t.Fatalf("Open, Upto: %v, %d", l.Open(), l.Upto())
	}
	for i, slot := range r.Perm(4096) {
		var chosen bool
		var e api.Errno
		if i%3 == 0 {
			chosen, e = true, l.Learn(slot, fmt.Sprint(slot))
		} else {
			chosen, e = l.Add(1, bl(1, 0), slot, fmt.Sprint(slot))
		}
		if !chosen || e != api.OK || len(l.Open()) != 4095-i {
			t.Fatalf("at %d: %t, %d; %d are open", slot, chosen, e, len(l.Open()))
		}
	}
	is(t, l.Upto(), 4096)
	for _, base := range []int{1, 2, 1000, 4094, lastSlot, lastSlot + 1} {
		is(t, l.Forget(base), api.OK)
		is(t, l.Upto(), 4096)
		for slot := -5; slot < 4100; slot++ {
			value, chosen := l.Chosen(slot)
			b, nodes := l.Votes(slot)
			if slot >= base && slot < 4096 {
				if value != fmt.Sprint(slot) || !chosen || b != bl(1, 0) || nodes&set(0) == 0 {
					t.Fatalf("base %d: %q, %t; %v, %b at %d", base, value, chosen, b, nodes, slot)
				}
			} else if value != "" || chosen || b != zero || nodes != 0 {
				t.Fatalf("base %d: %q, %t; %v, %b at %d", base, value, chosen, b, nodes, slot)
			}
		}
	}
}

// P13.6, P13.2, P13.3: forgotten slots are gone for good, chosen or not; nothing happens up to the base, and nothing but
// ErrRange with numbers that are none of a log.
func TestForget(t *testing.T) {
	kinds(t, func(l *learn.Learner, p *plain) {
		for _, upto := range places {
			c, q := l.Copy(), p.copy()
			expectForget(t, c, q, upto)
			expectSame(t, c, q)
			for _, slot := range []int{upto - 1, upto, upto + 1, p.base - 1, p.base, 100, 101} {
				expectAdd(t, c, q, vote{p.n - 1, bl(lastRound, p.n-1), slot, "new"})
				expectLearn(t, c, q, slot-2, "new")
			}
			expectSame(t, c, q)
			for _, then := range places {
				d, u := c.Copy(), q.copy()
				expectForget(t, d, u, then)
				expectState(t, d, u, 0, upto-2, upto-1, upto, upto+1, 100, 101)
			}
		}
		expectSame(t, l, p)
	})
}

// P13.1 to P13.6: all courses of up to four calls out of some, with two learners that were one before.
func TestShortCourses(t *testing.T) {
	var calls []func(l *learn.Learner, p *plain)
	for _, b := range []api.Ballot{bl(1, 0), bl(1, 1), bl(2, 0)} {
		for node := range 2 {
			for _, value := range []string{"x", "y"} {
				calls = append(calls, func(l *learn.Learner, p *plain) { expectAdd(t, l, p, vote{node, b, 0, value}) })
			}
		}
	}
	for slot := range 2 {
		calls = append(calls, func(l *learn.Learner, p *plain) { expectLearn(t, l, p, slot, "x") })
	}
	calls = append(calls, func(l *learn.Learner, p *plain) { expectAdd(t, l, p, vote{1, bl(1, 1), 1, "x"}) })
	for upto := range 3 {
		calls = append(calls, func(l *learn.Learner, p *plain) { expectForget(t, l, p, upto) })
	}
	var goOn func(l *learn.Learner, p *plain, left int)
	goOn = func(l *learn.Learner, p *plain, left int) {
		expectState(t, l, p, 0, 1)
		if left == 0 {
			return
		}
		for _, call := range calls {
			c, q := l.Copy(), p.copy()
			call(c, q)
			goOn(c, q, left-1)
		}
		expectState(t, l, p, 0, 1)
	}
	for _, n := range []int{2, 3} {
		l, p := fresh(t, n)
		goOn(l, p, 4)
	}
}

// expectGrowth checks that Upto is not smaller than it was before, that what was chosen is so unless it was forgotten,
// and that all slots from the base up to Upto are chosen.
func expectGrowth(t *testing.T, before, now *learn.Learner, base int) {
	t.Helper()
	if now.Upto() < before.Upto() || now.Upto() < base {
		t.Fatalf("Upto: %d, then %d; base %d", before.Upto(), now.Upto(), base)
	}
	for _, slot := range places {
		was, is := before.Chosen(slot)
		if value, still := now.Chosen(slot); is && slot >= base && (!still || value != was) {
			t.Fatalf("chosen at %d: %q, then %q, %t", slot, was, value, still)
		}
	}
	for slot := base; slot < min(now.Upto(), base+20); slot++ {
		if _, is := now.Chosen(slot); !is {
			t.Fatalf("Upto %d: not chosen at %d", now.Upto(), slot)
		}
	}
}

// course does a number of calls of all kinds, of which many are not allowed.
func course(t *testing.T, r *rand.Rand, l *learn.Learner, p *plain, calls int) {
	t.Helper()
	some := append(slices.Clone(places), 0, 1, 2, 3, 4, 5, 6, 7, 8, 9, 10)
	for range calls {
		before := l.Copy()
		slot := p.base + r.Intn(8) - 1
		if r.Intn(3) == 0 {
			slot = some[r.Intn(len(some))]
		}
		value := fmt.Sprint("v", slot, max(0, r.Intn(8)-6))
		if r.Intn(20) == 0 {
			value = long
		}
		switch r.Intn(12) {
		case 0:
			expectForget(t, l, p, min(slot, p.base+2))
		case 1, 2:
			expectLearn(t, l, p, slot, value)
		default:
			b := bl(1+r.Intn(3), r.Intn(p.n+1)%mostNodes)
			expectAdd(t, l, p, vote{r.Intn(p.n+4)%(p.n+2) - 1, b, slot, value})
		}
		expectState(t, l, p, slot)
		expectGrowth(t, before, l, p.base)
	}
	expectSame(t, l, p)
}

// P13.1 to P13.6, P13.8, P13.9: long courses of calls, with copies of which one goes on.
func TestLongCourses(t *testing.T) {
	for seed := range int64(210) {
		r := rand.New(rand.NewSource(seed))
		l, p := fresh(t, 1+int(seed)%mostNodes)
		for range 10 {
			c, q := l.Copy(), p.copy()
			course(t, r, c, q, 30)
			expectSame(t, l, p)
			course(t, r, l, p, 5)
			expectSame(t, c, q)
			if r.Intn(2) == 0 {
				l, p = c, q
			}
		}
	}
}

// P13.7: the votes of nodes in one ballot, with any votes in smaller ballots among them, come in any order and more than
// once; the value is chosen with the first vote that makes them more than half of the nodes.
func TestSoon(t *testing.T) {
	for seed := range int64(3_000) {
		r := rand.New(rand.NewSource(seed))
		n := 1 + int(seed)%mostNodes
		l, _ := fresh(t, n)
		b := bl(2+r.Intn(3), r.Intn(n))
		got, chosen := map[int]bool{}, false
		for range 40 {
			node := r.Intn(n)
			if r.Intn(2) == 0 {
				small := bl(1+r.Intn(b.Round-1), r.Intn(n))
				if len(got) > 0 { // otherwise a smaller ballot may have its majority first
					if now, e := l.Add(node, small, 5, "old"); now || e != api.OK {
						t.Fatalf("%v after %v: %t, %d", small, b, now, e)
					}
				}
				continue
			}
			got[node] = true
			now, e := l.Add(node, b, 5, "new")
			if now != (!chosen && 2*len(got) > n) || e != api.OK {
				t.Fatalf("%d of %d nodes: %t, %d", len(got), n, now, e)
			}
			chosen = chosen || now
			if _, is := l.Chosen(5); is != chosen {
				t.Fatalf("%d of %d nodes: chosen is %t", len(got), n, is)
			}
		}
	}
}

// group is a group of acceptors that have values chosen at slot 0, and of learners that hear of it: votes arrive in any
// order, twice, or not at all.
type group struct {
	t        *testing.T
	r        *rand.Rand
	nodes    []*accept.Acceptor
	learners []*learn.Learner
	all      []vote
	round    int
}

// attempt is a try of a node to have a value chosen: it asks some nodes for promises, and proposes what they told in the
// greatest ballot, or else a value of its own, to some nodes.
func (g *group) attempt() {
	n := len(g.nodes)
	g.round++
	b := bl(g.round, g.r.Intn(n))
	promises, best := 0, api.Entry{Value: fmt.Sprint("of ", g.round)}
	for _, node := range g.r.Perm(n)[:g.r.Intn(n+1)] {
		told, e := g.nodes[node].Promise(b, 0)
		if e != api.OK {
			continue
		}
		promises++
		for _, x := range told {
			if isBelow(best.B, x.B) {
				best = x
			}
		}
	}
	if 2*promises <= n {
		return
	}
	for _, node := range g.r.Perm(n)[:g.r.Intn(n+1)] {
		if g.nodes[node].Accept(b, 0, best.Value) == api.OK {
			g.all = append(g.all, vote{node, b, 0, best.Value})
		}
	}
}

// chosen returns the value that a majority has accepted in one ballot, if there is one.
func (g *group) chosen() (string, bool) {
	nodes := map[api.Ballot]map[int]bool{}
	for _, v := range g.all {
		if nodes[v.b] == nil {
			nodes[v.b] = map[int]bool{}
		}
		nodes[v.b][v.node] = true
		if 2*len(nodes[v.b]) > len(g.nodes) {
			return v.value, true
		}
	}
	return "", false
}

// hear tells a learner of some of the votes that there are. Only votes for a value that was not chosen may be refused:
// old ones, by a learner that was told what is chosen.
func (g *group) hear(l *learn.Learner) {
	for range g.r.Intn(3 * len(g.nodes)) {
		if len(g.all) == 0 {
			return
		}
		v := g.all[g.r.Intn(len(g.all))]
		_, e := l.Add(v.node, v.b, v.slot, v.value)
		if value, is := l.Chosen(0); e != api.OK && (e != api.ErrState || !is || value == v.value) {
			g.t.Fatalf("Add of %v: %d", v, e)
		}
	}
}

// P13.7, P13.8: whatever learners hear of a group that agrees, they learn nothing but what was chosen, whichever votes
// they missed; and what one of them has learned, no other one refuses.
func TestGroups(t *testing.T) {
	learned := 0
	for seed := range int64(2_000) {
		g := &group{t: t, r: rand.New(rand.NewSource(seed))}
		n := 1 + int(seed)%mostNodes
		for range n {
			a, e := accept.New(n)
			if e != api.OK {
				t.Fatalf("New: %d", e)
			}
			l, _ := fresh(t, n)
			g.nodes, g.learners = append(g.nodes, a), append(g.learners, l)
		}
		for range 10 {
			g.attempt()
			for _, l := range g.learners {
				g.hear(l)
				value, is := l.Chosen(0)
				want, wantIs := g.chosen()
				if is && (!wantIs || value != want) {
					t.Fatalf("%d nodes: learned %q, chosen is %q, %t", n, value, want, wantIs)
				}
				other := g.learners[g.r.Intn(n)]
				if is && g.r.Intn(4) == 0 {
					learned++
					if e := other.Learn(0, value); e != api.OK {
						t.Fatalf("%d nodes: Learn of %q: %d", n, value, e)
					}
				}
			}
		}
	}
	if learned < 1_000 {
		t.Errorf("%d values were learned", learned)
	}
}

// R2: a learner that New did not make is not valid, for calls of all kinds and before all other errors.
func TestNotValid(t *testing.T) {
	for _, l := range []*learn.Learner{nil, {}, new(learn.Learner)} {
		for _, place := range places {
			for _, value := range []string{"", long} {
				for _, b := range around() {
					for _, node := range []int{-1, 0, 7} {
						if chosen, e := l.Add(node, b, place, value); chosen || e != api.ErrNil {
							t.Errorf("Add(%d, %v, %d, %d bytes): %t, %d", node, b, place, len(value), chosen, e)
						}
					}
				}
				if e := l.Learn(place, value); e != api.ErrNil {
					t.Errorf("Learn(%d, %d bytes): %d", place, len(value), e)
				}
			}
			value, is := l.Chosen(place)
			b, nodes := l.Votes(place)
			if value != "" || is || b != zero || nodes != 0 {
				t.Errorf("Chosen, Votes of %d: %q, %t; %v, %b", place, value, is, b, nodes)
			}
			if e := l.Forget(place); e != api.ErrNil {
				t.Errorf("Forget(%d): %d", place, e)
			}
		}
		if l.Upto() != 0 || len(l.Open()) != 0 || l.Copy() != nil {
			t.Errorf("Upto, Open, Copy: %d, %v, %v", l.Upto(), l.Open(), l.Copy())
		}
	}
}

// R4: results are new memory.
func TestMemory(t *testing.T) {
	l, p := fresh(t, 3)
	for _, slot := range []int{7, 0, 2} {
		expectAdd(t, l, p, vote{1, bl(1, 0), slot, "x"})
	}
	first, second := l.Open(), l.Open()
	for i := range first {
		first[i] = 9
	}
	_ = append(first[:1], 8)
	if !slices.Equal(second, []int{0, 2, 7}) {
		t.Errorf("two results share memory: %v", second)
	}
	expectSame(t, l, p)
}

// R8: learners in equal states answer equally, whatever led there.
func TestSameAgain(t *testing.T) {
	all := func(l *learn.Learner) string {
		text := fmt.Sprint(l.Upto(), l.Open())
		for _, place := range places {
			value, is := l.Chosen(place)
			b, nodes := l.Votes(place)
			chosen, e := l.Copy().Add(2, bl(2, 2), place, fmt.Sprint(place))
			text += fmt.Sprint(value, is, b, nodes, chosen, e, l.Copy().Learn(place, "x"), l.Copy().Forget(place))
		}
		return text
	}
	var first string
	for seed := range int64(20) {
		r := rand.New(rand.NewSource(seed))
		l, p := fresh(t, 3)
		expectForget(t, l, p, r.Intn(5))
		for _, slot := range r.Perm(110) {
			expectAdd(t, l, p, vote{r.Intn(3), bl(1, 0), slot, "old"})
		}
		for _, slot := range r.Perm(110) {
			expectAdd(t, l, p, vote{1, bl(2, 2), slot, fmt.Sprint(slot)})
			if slot%3 == 0 {
				expectLearn(t, l, p, slot, fmt.Sprint(slot))
			}
		}
		expectForget(t, l, p, 5)
		if got := all(l); seed == 0 {
			first = got
		} else if got != first {
			t.Errorf("%s, then %s", first, got)
		}
		if got := all(l.Copy()); got != first {
			t.Errorf("%s, but the copy %s", first, got)
		}
	}
}

package propose_test

import (
	"fmt"
	"math"
	"math/rand"
	"slices"
	"strings"
	"testing"

	"skald/accept"
	"skald/api"
	"skald/propose"
)

const (
	lastSlot  = 4095
	lastRound = 1 << 30
	mostNodes = 7
)

var zero api.Ballot

// Numbers in and around what is allowed, and far away.
var (
	counts = []int{math.MinInt, -1 << 32, -7, -1, 0, 1, 2, 3, 4, 5, 6, 7, 8, 9, 63, 64, 65, 1 << 32, 1<<32 + 1, 1<<32 + 7, math.MaxInt}
	places = []int{math.MinInt, math.MinInt + 1, -1 << 32, -4096, -2, -1, 0, 1, 2, 3, 4, 5, 99, 100, 101, 102, 103, 4094, 4095, 4096, 4097, 4098, 1 << 32, 1<<32 + 1, math.MaxInt - 1, math.MaxInt}
)

// values are allowed, up to the longest one; the one in long is not.
var (
	values = []string{"", "x", "\x00", "\xff\xfe", "äöü", strings.Repeat("v", 65535), strings.Repeat("v", 65536)}
	long   = strings.Repeat("v", 65537)
)

// bl returns a ballot.
func bl(round, node int) api.Ballot { return api.Ballot{Round: round, Node: node} }

// en returns an entry.
func en(slot int, b api.Ballot, value string) api.Entry {
	return api.Entry{Slot: slot, B: b, Value: value}
}

// set returns the set of some nodes.
func set(nodes ...int) uint64 {
	var s uint64
	for _, node := range nodes {
		s |= 1 << node
	}
	return s
}

// promise is what a node tells.
type promise struct {
	node int
	list []api.Entry
	upto int
}

// plain is a proposer as the chapter defines it: it remembers the promises as they came, and looks through all of them
// for each slot.
type plain struct {
	n        int
	b        api.Ballot
	from     int
	promises []promise
}

func (p *plain) copy() *plain {
	return &plain{p.n, p.b, p.from, slices.Clone(p.promises)}
}

func isGood(b api.Ballot, n int) bool {
	return b.Round >= 1 && b.Round <= 1<<30 && b.Node >= 0 && b.Node < n
}

func isBelow(a, b api.Ballot) bool {
	return a.Round < b.Round || a.Round == b.Round && a.Node < b.Node
}

func (p *plain) isList(l []api.Entry) bool {
	for i, x := range l {
		if x.Slot < p.from || x.Slot > 4095 || !isGood(x.B, p.n) || i > 0 && l[i-1].Slot >= x.Slot {
			return false
		}
	}
	return true
}

func (p *plain) nodes() uint64 {
	var s uint64
	for _, x := range p.promises {
		s |= set(x.node)
	}
	return s
}

func (p *plain) ready() bool {
	return 2*len(p.promises) > p.n
}

func (p *plain) upto() int {
	upto := 0
	for _, x := range p.promises {
		upto = max(upto, x.upto)
	}
	return upto
}

func (p *plain) add(x promise) (bool, api.Errno) {
	if x.node < 0 || x.node >= p.n || !p.isList(x.list) || x.upto < 0 || x.upto > 4096 {
		return false, api.ErrArg
	}
	for _, y := range x.list {
		if len(y.Value) > 65536 {
			return false, api.ErrLong
		}
	}
	if p.nodes()&set(x.node) != 0 {
		return false, api.ErrHave
	}
	p.promises = append(p.promises, promise{x.node, slices.Clone(x.list), x.upto})
	return p.ready(), api.OK
}

// told is an entry, and which node told it.
type told struct {
	node int
	api.Entry
}

// best returns the value that has to be proposed at a slot with these entries.
func best(entries []told) string {
	best := told{}
	for _, x := range entries {
		if isBelow(best.B, x.B) || best.B == x.B && x.node < best.node {
			best = x
		}
	}
	return best.Value
}

func (p *plain) values() ([]api.Entry, api.Errno) {
	if !p.ready() {
		return nil, api.ErrState
	}
	end, entries := -1, map[int][]told{}
	for _, x := range p.promises {
		for _, y := range x.list {
			end = max(end, y.Slot)
			entries[y.Slot] = append(entries[y.Slot], told{x.node, y})
		}
	}
	var l []api.Entry
	for slot := max(p.from, p.upto()); slot <= end; slot++ {
		l = append(l, en(slot, p.b, best(entries[slot])))
	}
	return l, api.OK
}

// short writes entries for a message.
func short(l []api.Entry) string {
	text := ""
	for i, x := range l {
		if i == 20 {
			return text + fmt.Sprint(" .. ", len(l))
		}
		text += fmt.Sprintf(" %d %d.%d %.9q(%d)", x.Slot, x.B.Round, x.B.Node, x.Value, len(x.Value))
	}
	return text
}

// expectValues checks what has to be proposed.
func expectValues(t *testing.T, p *propose.Proposer, q *plain) {
	t.Helper()
	got, e := p.Values()
	want, wantE := q.values()
	if !slices.Equal(got, want) || e != wantE {
		t.Fatalf("Values:%s, %d; want%s, %d", short(got), e, short(want), wantE)
	}
}

// expectState checks all that can be asked of a proposer but Values.
func expectState(t *testing.T, p *propose.Proposer, q *plain) {
	t.Helper()
	if p.Ready() != q.ready() || p.Upto() != q.upto() || p.Ballot() != q.b || p.Nodes() != q.nodes() {
		t.Fatalf("Ready %t, Upto %d, Ballot %v, Nodes %b; want %t, %d, %v, %b", p.Ready(), p.Upto(), p.Ballot(), p.Nodes(), q.ready(), q.upto(), q.b, q.nodes())
	}
}

// expectSame checks all that can be asked of a proposer.
func expectSame(t *testing.T, p *propose.Proposer, q *plain) {
	t.Helper()
	expectState(t, p, q)
	expectValues(t, p, q)
}

// expectAdd has a promise added by the proposer and by what it has to be.
func expectAdd(t *testing.T, p *propose.Proposer, q *plain, x promise) api.Errno {
	t.Helper()
	ready, e := p.Add(x.node, x.list, x.upto)
	wantReady, want := q.add(x)
	if ready != wantReady || e != want {
		t.Fatalf("%d nodes, from %d: Add(%d,%s, %d): %t, %d; want %t, %d", q.n, q.from, x.node, short(x.list), x.upto, ready, e, wantReady, want)
	}
	return e
}

// fresh returns a new proposer, and what it has to be.
func fresh(t *testing.T, n int, b api.Ballot, from int) (*propose.Proposer, *plain) {
	t.Helper()
	p, e := propose.New(n, b, from)
	if p == nil || e != api.OK {
		t.Fatalf("New(%d, %v, %d): %v, %d", n, b, from, p, e)
	}
	return p, &plain{n: n, b: b, from: from}
}

// kinds calls a function for proposers of all kinds, of which each call gets its own: of groups of all sizes, that ask
// for the slots from different ones on, with all numbers of promises.
func kinds(t *testing.T, do func(p *propose.Proposer, q *plain)) {
	t.Helper()
	for n := 1; n <= mostNodes; n++ {
		for _, from := range []int{0, 2, 100, lastSlot, lastSlot + 1} {
			p, q := fresh(t, n, bl(5, n/2), from)
			do(p.Copy(), q.copy())
			for i := range n {
				node := (i + n/2) % n
				var l []api.Entry
				for _, slot := range []int{0, 2, 3, 100, 102, 4094, lastSlot} {
					if slot >= from && (slot+i)%3 != 1 {
						l = append(l, en(slot, bl(1+(slot+i)%4, i), fmt.Sprint("of ", node, " at ", slot)))
					}
				}
				expectAdd(t, p, q, promise{node, l, []int{0, 1, 3, 2, 101, 4095, 4096}[i]})
				do(p.Copy(), q.copy())
			}
		}
	}
}

// around are ballots below and above 5.0 to 5.6, the greatest ones, and ones that are not good in some or all groups.
func around() []api.Ballot {
	l := []api.Ballot{zero, bl(0, 1), bl(0, -1), bl(-1, 0), bl(1, 0), bl(4, 0), bl(4, 6), bl(6, 0), bl(6, 6), bl(lastRound-1, 0), bl(lastRound+1, 0), bl(1<<32+5, 0), bl(math.MinInt, 0), bl(math.MaxInt, 0), bl(5, 1<<32), bl(5, math.MinInt), bl(5, math.MaxInt), bl(math.MaxInt, math.MaxInt)}
	for node := -2; node <= mostNodes+1; node++ {
		l = append(l, bl(5, node), bl(lastRound, node))
	}
	return l
}

// is checks that something is what it has to be.
func is[T comparable](t *testing.T, got, want T) {
	t.Helper()
	if got != want {
		t.Errorf("%v, want %v", got, want)
	}
}

// P14.1 to P14.4: the chapter's examples.
func TestExamples(t *testing.T) {
	mine := bl(5, 1)
	p, _ := fresh(t, 3, mine, 2)
	add := func(node int, l []api.Entry, upto int, wantReady bool, want api.Errno) {
		t.Helper()
		ready, e := p.Add(node, l, upto)
		is(t, ready, wantReady)
		is(t, e, want)
	}
	proposed := func(wantE api.Errno, want ...api.Entry) {
		t.Helper()
		l, e := p.Values()
		is(t, short(l), short(want))
		is(t, e, wantE)
	}
	proposed(api.ErrState)
	is(t, p.Ready(), false)
	is(t, p.Upto(), 0)
	add(1, nil, 2, false, api.OK)
	add(1, nil, 2, false, api.ErrHave)
	add(0, []api.Entry{en(3, bl(3, 0), "x"), en(5, bl(4, 0), "y")}, 3, true, api.OK)
	proposed(api.OK, en(3, mine, "x"), en(4, mine, ""), en(5, mine, "y"))
	early := p.Copy()
	add(2, []api.Entry{en(4, bl(2, 2), "z"), en(5, bl(3, 2), "w")}, 4, true, api.OK)
	proposed(api.OK, en(4, mine, "z"), en(5, mine, "y"))
	is(t, p.Upto(), 4)
	is(t, p.Nodes(), 7)
	for _, p = range []*propose.Proposer{p, early} {
		add(3, nil, 0, false, api.ErrArg)
		add(2, []api.Entry{en(5, bl(1, 0), "x"), en(5, bl(1, 0), "x")}, 0, false, api.ErrArg)
		add(2, []api.Entry{en(1, bl(1, 0), "x")}, 0, false, api.ErrArg)
		add(2, []api.Entry{en(5, bl(3, 3), "x")}, 0, false, api.ErrArg)
		add(2, nil, 4097, false, api.ErrArg)
	}
	for _, x := range []struct {
		n    int
		b    api.Ballot
		from int
	}{{3, bl(5, 3), 0}, {3, bl(0, 0), 0}, {3, bl(5, 1), 4097}, {8, bl(5, 1), 0}} {
		p, e := propose.New(x.n, x.b, x.from)
		is(t, p, nil)
		is(t, e, api.ErrArg)
	}
}

// P14.1, P14.3: New makes proposers of groups of 1 to MaxNodes nodes, with ballots that are good in them, for slots from
// any one on, which have no promises.
func TestNew(t *testing.T) {
	for _, n := range counts {
		for _, b := range around() {
			for _, from := range places {
				if n >= 1 && n <= 7 && isGood(b, n) && from >= 0 && from <= 4096 {
					p, q := fresh(t, n, b, from)
					expectSame(t, p, q)
					if p.Ready() || p.Nodes() != 0 || p.Upto() != 0 || p.Ballot() != b {
						t.Errorf("New(%d, %v, %d): %t, %b, %d, %v", n, b, from, p.Ready(), p.Nodes(), p.Upto(), p.Ballot())
					}
				} else if p, e := propose.New(n, b, from); p != nil || e != api.ErrArg {
					t.Errorf("New(%d, %v, %d): %v, %d", n, b, from, p, e)
				}
			}
		}
	}
}

// P14.1: a copy is of the same group and ballot, asked for the same slots, and has the same promises.
func TestCopy(t *testing.T) {
	kinds(t, func(p *propose.Proposer, q *plain) {
		c, r := p.Copy(), q.copy()
		expectSame(t, c, r)
		for node := -1; node <= mostNodes; node++ {
			for _, slot := range []int{q.from - 1, q.from} {
				expectAdd(t, c.Copy(), r.copy(), promise{node, []api.Entry{en(slot, bl(9, 0), "new")}, 0})
			}
		}
		for _, of := range []struct {
			p *propose.Proposer
			q *plain
		}{{p, q}, {c, r}} {
			for node := range q.n {
				expectAdd(t, of.p, of.q, promise{node, nil, 4096 - node})
			}
			expectSame(t, of.p, of.q)
		}
	})
}

// P14.1: neither a proposer nor its copy is changed by what becomes of the other one.
func TestCopyAlone(t *testing.T) {
	kinds(t, func(p *propose.Proposer, q *plain) {
		c, r := p.Copy(), q.copy()
		for node := range q.n {
			x := promise{node, nil, q.from}
			if q.from <= lastSlot {
				x.list = []api.Entry{en(q.from, bl(9, 0), "new"), en(4096, bl(9, 0), "new")}[:1]
			}
			expectAdd(t, c, r, x)
			expectSame(t, p, q)
		}
		c, r = p.Copy(), q.copy()
		for node := range q.n {
			expectAdd(t, p, q, promise{node, nil, 4096})
			expectSame(t, c, r)
		}
	})
}

// P14.2, P14.7: Add takes nodes of the group, and numbers of slots; and each node's promise just once.
func TestAdd(t *testing.T) {
	lists := func(from int) [][]api.Entry {
		return [][]api.Entry{nil, {}, {en(from, bl(1, 0), "x")}, {en(from, bl(1, 0), long)}, {en(from-1, bl(1, 0), "x")}, {en(from-1, bl(1, 0), long)}, {en(from, zero, long)}}
	}
	kinds(t, func(p *propose.Proposer, q *plain) {
		for _, node := range append(counts, 10, 1<<32-1) {
			for _, upto := range places {
				for _, l := range lists(q.from) {
					c, r := p.Copy(), q.copy()
					expectAdd(t, c, r, promise{node, l, upto})
					expectState(t, c, r)
				}
			}
		}
		expectSame(t, p, q)
	})
}

// P14.2: the ballots of entries are good in the group, below the proposer's ballot or not.
func TestBallots(t *testing.T) {
	kinds(t, func(p *propose.Proposer, q *plain) {
		for _, b := range around() {
			for node := range q.n {
				for slot := q.from; slot < min(q.from+3, 4096); slot++ {
					c, r := p.Copy(), q.copy()
					if expectAdd(t, c, r, promise{node, []api.Entry{en(slot, b, "new")}, 0}) == api.OK && node%3 == 0 {
						expectSame(t, c, r)
					}
				}
			}
		}
		expectSame(t, p, q)
	})
}

// P14.2: the slots of entries are those from the first one that was asked for up to the last one, in order.
func TestSlots(t *testing.T) {
	kinds(t, func(p *propose.Proposer, q *plain) {
		some := append(slices.Clone(places), q.from-1, q.from, q.from+1)
		for _, first := range some {
			expectAdd(t, p.Copy(), q.copy(), promise{0, []api.Entry{en(first, bl(1, 0), "x")}, 0})
			for _, second := range some {
				l := []api.Entry{en(first, bl(2, 0), "x"), en(second, bl(1, 0), "y"), en(lastSlot, bl(1, 0), "z")}
				expectAdd(t, p.Copy(), q.copy(), promise{q.n - 1, l[:2], 0})
				expectAdd(t, p.Copy(), q.copy(), promise{q.n - 1, l, 0})
			}
		}
	})
}

// full returns a list with entries at all slots from one on.
func full(from int, b api.Ballot, value string) []api.Entry {
	var l []api.Entry
	for slot := from; slot <= lastSlot; slot++ {
		l = append(l, en(slot, b, fmt.Sprint(value, slot)))
	}
	return l
}

// P14.2: an entry that is not as it has to be makes a long list no valid one, wherever it stands; what stands before or
// behind its list does not matter.
func TestOneBadEntry(t *testing.T) {
	for _, from := range []int{0, 4000} {
		p, q := fresh(t, 3, bl(5, 1), from)
		good := full(from, bl(2, 0), "v")
		expectAdd(t, p.Copy(), q.copy(), promise{0, good, 0})
		for _, i := range []int{0, 1, len(good) / 2, len(good) - 2, len(good) - 1} {
			for _, bad := range []api.Entry{
				en(good[i].Slot, zero, "x"), en(good[i].Slot, bl(1, 3), "x"), en(good[i].Slot, bl(1, -1), "x"), en(good[i].Slot, bl(lastRound+1, 0), "x"),
				en(good[i].Slot+1, bl(1, 0), "x"), en(good[i].Slot-1, bl(1, 0), "x"), en(-1, bl(1, 0), "x"), en(4096, bl(1, 0), "x"),
				en(good[i].Slot, bl(1, 0), long), en(good[i].Slot, bl(1, 0), values[6]),
			} {
				l := slices.Clone(good)
				l[i] = bad
				expectAdd(t, p.Copy(), q.copy(), promise{0, l, 0})
				if i > 0 { // the bad entry is not in the list, but behind it
					expectAdd(t, p.Copy(), q.copy(), promise{0, l[:i], 0})
				}
				expectAdd(t, p.Copy(), q.copy(), promise{0, l[i+1:], 0})
			}
		}
		expectSame(t, p, q)
	}
}

// P14.2, R7: values of up to MaxText bytes, the bytes as they were given, wherever they stand.
func TestLongValues(t *testing.T) {
	for _, value := range append(values, long, long+"v") {
		for place := range 3 {
			p, q := fresh(t, 1, bl(5, 0), 0)
			l := []api.Entry{en(0, bl(1, 0), "a"), en(7, bl(1, 0), "b"), en(lastSlot, bl(1, 0), "c")}
			l[place].Value = value
			expectAdd(t, p, q, promise{0, l, 0})
			expectSame(t, p, q)
		}
	}
	p, q := fresh(t, 7, bl(5, 0), 0)
	for node := range 7 {
		l := full(0, bl(1+node%3, 0), "")
		for i := range l {
			l[i].Value = values[6]
		}
		expectAdd(t, p, q, promise{node, l, 0})
	}
	expectValues(t, p, q)
}

// P14.2, P14.3: with the promises of any nodes, in any order; a proposer is ready if they are more than half of all.
func TestReady(t *testing.T) {
	for n := 1; n <= mostNodes; n++ {
		var goOn func(p *propose.Proposer, q *plain)
		goOn = func(p *propose.Proposer, q *plain) {
			expectSame(t, p, q)
			for node := range n {
				c, r := p.Copy(), q.copy()
				if expectAdd(t, c, r, promise{node, nil, node}) == api.OK {
					goOn(c, r)
				}
			}
		}
		p, q := fresh(t, n, bl(5, 0), 0)
		goOn(p, q)
	}
}

// P14.3: Upto is the greatest one of all promises, also below the first slot that was asked for, and is not from it on.
func TestUpto(t *testing.T) {
	uptos := []int{0, 1, 2, 3, 99, 4094, 4095, 4096}
	for _, from := range []int{0, 2, 100, 4096} {
		for _, a := range uptos {
			for _, b := range uptos {
				p, q := fresh(t, 3, bl(5, 0), from)
				expectAdd(t, p, q, promise{2, nil, a})
				is(t, p.Upto(), a)
				expectAdd(t, p, q, promise{0, full(max(from, 4000), bl(1, 0), "v"), b})
				is(t, p.Upto(), max(a, b))
				expectSame(t, p, q)
			}
		}
	}
}

// P14.4: all that three nodes may tell of two slots, from the second slot on or from both.
func TestValues(t *testing.T) {
	ballots := []api.Ballot{zero, bl(1, 1), bl(2, 0), bl(9, 2)}
	for from := range 2 {
		var tell func(p *propose.Proposer, q *plain, node int)
		tell = func(p *propose.Proposer, q *plain, node int) {
			expectSame(t, p, q)
			for _, first := range ballots[:1+3*(1-from)] {
				for _, second := range ballots {
					for upto := 0; upto < 4 && node < 3; upto++ {
						var l []api.Entry
						if first != zero {
							l = append(l, en(0, first, fmt.Sprint("of ", node)))
						}
						if second != zero {
							l = append(l, en(1, second, fmt.Sprint("by ", node)))
						}
						c, r := p.Copy(), q.copy()
						expectAdd(t, c, r, promise{node, l, upto})
						tell(c, r, node+1)
					}
				}
			}
		}
		p, q := fresh(t, 3, bl(5, 1), from)
		tell(p, q, 0)
	}
}

// P14.4: of equal ballots the value of the smallest node, whichever promise came first; of ballots of one round, that of
// the greatest node of a ballot, whoever tells it.
func TestEqualBallots(t *testing.T) {
	for seed := range int64(500) {
		r := rand.New(rand.NewSource(seed))
		p, q := fresh(t, 7, bl(5, 0), 0)
		first := 7
		for _, node := range r.Perm(7)[:4+r.Intn(4)] {
			expectAdd(t, p, q, promise{node, []api.Entry{en(0, bl(3, 3), fmt.Sprint(node)), en(1, bl(3, 6-node), fmt.Sprint(node))}, 0})
			first = min(first, node)
		}
		l, e := p.Values()
		if want := fmt.Sprint(first); e != api.OK || len(l) != 2 || l[0].Value != want || l[1].Value != want {
			t.Errorf("%b:%s, %d", p.Nodes(), short(l), e)
		}
		expectSame(t, p, q)
	}
}

// P14.4: whole logs, told by all nodes: each slot has the value of another node, and none is left out.
func TestFullLogs(t *testing.T) {
	for n := 1; n <= mostNodes; n++ {
		for _, from := range []int{0, 1, 4000, 4095, 4096} {
			p, q := fresh(t, n, bl(5, 0), from)
			for node := range n {
				l := full(from, bl(1, 0), fmt.Sprint("of ", node, " at "))
				for i := range l {
					if l[i].Slot%n == node {
						l[i].B = bl(2, n-1)
					}
				}
				expectAdd(t, p, q, promise{node, l, min(from, 4090)})
			}
			l, e := p.Values()
			if begin := max(from, min(from, 4090)); e != api.OK || len(l) != 4096-begin {
				t.Fatalf("from %d on: %d, %d", from, len(l), e)
			}
			for i, x := range l {
				if want := en(from+i, bl(5, 0), fmt.Sprint("of ", (from+i)%n, " at ", from+i)); x != want {
					t.Fatalf("%v, want %v", x, want)
				}
			}
		}
	}
}

// P14.4: slots of which no promise tells, between others, have the empty value: also all but the last one.
func TestGaps(t *testing.T) {
	for _, upto := range []int{0, 1, 2000, 4094, 4095, 4096} {
		for _, slots := range [][]int{{}, {0}, {1}, {0, 4095}, {4095}, {7, 8, 4094}, {2000, 2002}} {
			p, q := fresh(t, 2, bl(5, 0), 0)
			expectAdd(t, p, q, promise{1, nil, upto})
			var l []api.Entry
			for _, slot := range slots {
				l = append(l, en(slot, bl(1, 1), fmt.Sprint(slot)))
			}
			expectAdd(t, p, q, promise{0, l, 0})
			expectSame(t, p, q)
			got, e := p.Values()
			for i, x := range got {
				want := ""
				if slices.Contains(slots, upto+i) {
					want = fmt.Sprint(upto + i)
				}
				if x != en(upto+i, bl(5, 0), want) {
					t.Fatalf("%v at %d", x, upto+i)
				}
			}
			if n := len(l); e != api.OK || n == 0 && len(got) != 0 || n > 0 && len(got) != max(0, slots[n-1]+1-upto) {
				t.Fatalf("upto %d, %v: %d, %d", upto, slots, len(got), e)
			}
		}
	}
}

// random returns a promise, of which some are not allowed.
func random(r *rand.Rand, q *plain) promise {
	x := promise{node: r.Intn(q.n), upto: max(0, q.from+r.Intn(6)-3)}
	for slot := q.from; slot < q.from+r.Intn(12); slot++ {
		if r.Intn(3) > 0 {
			x.list = append(x.list, en(slot, bl(1+r.Intn(3), r.Intn(q.n)), fmt.Sprint("v", r.Intn(1000))))
		}
	}
	if r.Intn(8) == 0 {
		x.node = counts[r.Intn(len(counts))]
	}
	if r.Intn(8) == 0 {
		x.upto = places[r.Intn(len(places))]
	}
	if i := r.Intn(20); i < len(x.list) {
		x.list[i] = []api.Entry{en(q.from-1, bl(1, 0), "x"), en(q.from, zero, "x"), en(4096, bl(1, 0), "x"), en(x.list[i].Slot, bl(1, 0), long)}[r.Intn(4)]
	}
	return x
}

// P14.1 to P14.4, P14.7: long courses of calls, with copies of which one goes on.
func TestLongCourses(t *testing.T) {
	for seed := range int64(3_000) {
		r := rand.New(rand.NewSource(seed))
		n := 1 + int(seed)%mostNodes
		p, q := fresh(t, n, bl(1+r.Intn(5), r.Intn(n)), []int{0, 1, 50, 4090, 4096}[r.Intn(5)])
		for range 2 * n {
			c, d := p.Copy(), q.copy()
			for range 1 + r.Intn(4) {
				expectAdd(t, c, d, random(r, d))
				expectSame(t, c, d)
			}
			expectSame(t, p, q)
			expectAdd(t, p, q, random(r, q))
			expectSame(t, p, q)
			expectSame(t, c, d)
			if r.Intn(2) == 0 {
				p, q = c, d
			}
		}
	}
}

// P14.6: the order of the promises does not matter. With each further one, the first slot is no smaller, and the ballots
// are the same.
func TestOrder(t *testing.T) {
	for seed := range int64(2_000) {
		r := rand.New(rand.NewSource(seed))
		n := 1 + int(seed)%mostNodes
		_, q := fresh(t, n, bl(4, r.Intn(n)), r.Intn(3))
		for range 40 {
			q.add(random(r, q))
		}
		var first []api.Entry
		for k := range 6 {
			p, _ := fresh(t, n, q.b, q.from)
			begin := 0
			for _, i := range r.Perm(len(q.promises)) {
				x := q.promises[i]
				if _, e := p.Add(x.node, x.list, x.upto); e != api.OK {
					t.Fatalf("Add: %d", e)
				}
				l, _ := p.Values()
				if len(l) > 0 && l[0].Slot < begin {
					t.Fatalf("from %d on, then from %d on", begin, l[0].Slot)
				}
				for i, x := range l {
					begin = l[0].Slot
					if x.Slot != begin+i || x.B != q.b {
						t.Fatalf("%v in%s", x, short(l))
					}
				}
			}
			l, _ := p.Values()
			if k == 0 {
				first = l
			}
			if !slices.Equal(l, first) {
				t.Fatalf("%s, then%s", short(first), short(l))
			}
		}
	}
}

// group is a group of acceptors that have values chosen: what they have accepted in each ballot is remembered.
type group struct {
	t     *testing.T
	r     *rand.Rand
	nodes []*accept.Acceptor
	all   map[api.Entry]uint64 // the nodes that have accepted
}

// chosen returns the value that a majority has accepted in one ballot at a slot.
func (g *group) chosen(slot int) (string, bool) {
	for x, nodes := range g.all {
		if x.Slot == slot && 2*strings.Count(fmt.Sprintf("%b", nodes), "1") > len(g.nodes) {
			return x.Value, true
		}
	}
	return "", false
}

// upto returns a number of slots, all of which are chosen.
func (g *group) upto() int {
	for slot := 0; ; slot++ {
		if _, is := g.chosen(slot); !is {
			return g.r.Intn(slot + 1)
		}
	}
}

// ask has some nodes promise a ballot, and returns a proposer with what they told.
func (g *group) ask(b api.Ballot, from int) *propose.Proposer {
	n := len(g.nodes)
	p, _ := fresh(g.t, n, b, from)
	for _, node := range g.r.Perm(n)[:g.r.Intn(n+1)] {
		l, e := g.nodes[node].Promise(b, from)
		if e != api.OK {
			continue
		}
		if _, e := p.Add(node, l, g.upto()); e != api.OK {
			g.t.Fatalf("Add(%d,%s): %d", node, short(l), e)
		}
	}
	return p
}

// lead has some nodes accept what a ready proposer says, and then new values at the slots behind.
func (g *group) lead(p *propose.Proposer, from int) {
	l, e := p.Values()
	if e != api.OK {
		g.t.Fatalf("Values: %d", e)
	}
	next := max(from, p.Upto())
	if len(l) > 0 {
		next = l[len(l)-1].Slot + 1
	}
	for slot := next; slot < next+g.r.Intn(3); slot++ {
		l = append(l, en(slot, p.Ballot(), fmt.Sprint("by ", p.Ballot(), " at ", slot)))
	}
	for _, x := range l {
		for _, node := range g.r.Perm(len(g.nodes))[:g.r.Intn(len(g.nodes)+1)] {
			if g.nodes[node].Accept(x.B, x.Slot, x.Value) == api.OK {
				g.all[x] |= set(node)
			}
		}
	}
}

// expectSafe checks that a proposer proposes what is chosen, and nothing else at its slots.
func (g *group) expectSafe(p *propose.Proposer, from int) (found int) {
	l, e := p.Values()
	if e != api.OK {
		g.t.Fatalf("Values: %d", e)
	}
	for slot := max(from, p.Upto()); slot < 30; slot++ {
		value, is := g.chosen(slot)
		if !is {
			continue
		}
		found++
		if i := slot - max(from, p.Upto()); i >= len(l) || l[i] != en(slot, p.Ballot(), value) {
			g.t.Fatalf("%q is chosen at %d, but from %d, upto %d:%s", value, slot, from, p.Upto(), short(l))
		}
	}
	return found
}

// P14.5: in a group whose leaders propose what Values tells them, nothing else is proposed at a slot where a value is
// chosen, whoever promises; slots below the one that was asked for, or that some node knows to be chosen, need not be
// proposed.
func TestSafe(t *testing.T) {
	found := 0
	for seed := range int64(4_000) {
		g := &group{t: t, r: rand.New(rand.NewSource(seed)), all: map[api.Entry]uint64{}}
		n := 1 + int(seed)%mostNodes
		for range n {
			a, e := accept.New(n)
			if e != api.OK {
				t.Fatalf("New: %d", e)
			}
			g.nodes = append(g.nodes, a)
		}
		for round := 1; round <= 12; round++ {
			from := g.upto()
			p := g.ask(bl(round, g.r.Intn(n)), from)
			if !p.Ready() {
				continue
			}
			found += g.expectSafe(p, from)
			g.lead(p, from)
		}
	}
	if found < 5_000 {
		t.Errorf("%d values were chosen before", found)
	}
}

// P14.5: a majority has accepted a value in a ballot, and some nodes the same one later; whatever the others have
// accepted before, it is proposed to each majority that promises.
func TestSafeMajorities(t *testing.T) {
	for seed := range int64(5_000) {
		r := rand.New(rand.NewSource(seed))
		n := 1 + int(seed)%mostNodes
		order := r.Perm(n)
		told := make([][]api.Entry, n)
		for i, node := range order {
			switch {
			case i <= n/2 || r.Intn(4) == 0:
				told[node] = []api.Entry{en(8, bl(3+r.Intn(3), n-1), "it")}
			case r.Intn(3) > 0:
				told[node] = []api.Entry{en(8, bl(1+r.Intn(2), r.Intn(n)), "other")}
			}
		}
		from := r.Intn(9)
		p, q := fresh(t, n, bl(6, 0), from)
		for _, node := range r.Perm(n) {
			upto := r.Intn(10) * r.Intn(2)
			expectAdd(t, p, q, promise{node, told[node], upto})
			if !p.Ready() {
				continue
			}
			begin := max(from, p.Upto())
			if l, e := p.Values(); e != api.OK || begin <= 8 && (len(l) != 9-begin || l[8-begin] != en(8, bl(6, 0), "it")) {
				t.Fatalf("begin %d: Values:%s, %d", begin, short(l), e)
			}
		}
	}
}

// R2: a proposer that New did not make is not valid, for calls of all kinds and before all other errors.
func TestNotValid(t *testing.T) {
	for _, p := range []*propose.Proposer{nil, {}, new(propose.Proposer)} {
		for _, node := range counts {
			for _, upto := range places {
				for _, l := range [][]api.Entry{nil, {en(0, bl(1, 0), "x")}, {en(0, bl(1, 0), long)}, {en(-1, zero, "x")}} {
					if ready, e := p.Add(node, l, upto); ready || e != api.ErrNil {
						t.Errorf("Add(%d,%s, %d): %t, %d", node, short(l), upto, ready, e)
					}
				}
			}
		}
		l, e := p.Values()
		if len(l) != 0 || e != api.ErrNil || p.Ready() || p.Upto() != 0 || p.Ballot() != zero || p.Nodes() != 0 || p.Copy() != nil {
			t.Errorf("%s, %d, %t, %d, %v, %b, %v", short(l), e, p.Ready(), p.Upto(), p.Ballot(), p.Nodes(), p.Copy())
		}
	}
}

// R4: lists are neither kept nor changed, nor read behind their ends; results are new memory.
func TestMemory(t *testing.T) {
	p, q := fresh(t, 3, bl(5, 1), 0)
	whole := []api.Entry{en(1, bl(1, 0), "a"), en(2, bl(1, 0), "b"), en(3, bl(1, 0), "behind"), en(0, zero, long)}
	before := slices.Clone(whole)
	for node := range 2 {
		expectAdd(t, p, q, promise{node, whole[:2], 0})
	}
	if !slices.Equal(whole, before) {
		t.Errorf("the list was changed:%s", short(whole))
	}
	c := p.Copy()
	for i := range whole {
		whole[i] = en(3-i, bl(9, 2), "changed")
	}
	expectSame(t, p, q)
	expectSame(t, c, q)
	first, _ := p.Values()
	second, _ := p.Values()
	third, _ := c.Values()
	for i := range first {
		first[i] = en(9, bl(9, 2), "changed")
	}
	_ = append(first[:1], en(8, bl(8, 2), "changed"))
	if want, _ := q.values(); !slices.Equal(second, want) || !slices.Equal(third, want) {
		t.Errorf("results share memory:%s,%s", short(second), short(third))
	}
	expectSame(t, p, q)
	expectSame(t, c, q)
}

// R8: proposers in equal states answer equally, whatever led there.
func TestSameAgain(t *testing.T) {
	all := func(p *propose.Proposer) string {
		l, e := p.Values()
		text := fmt.Sprint(l, e, p.Ready(), p.Upto(), p.Ballot(), p.Nodes())
		for node := range 7 {
			c := p.Copy()
			ready, e := c.Add(node, []api.Entry{en(3, bl(9, 0), "new")}, 1)
			l, _ := c.Values()
			text += fmt.Sprint(ready, e, l)
		}
		return text
	}
	var first string
	for seed := range int64(30) {
		r := rand.New(rand.NewSource(seed))
		p, q := fresh(t, 7, bl(5, 1), 0)
		for _, node := range r.Perm(6) {
			for range r.Intn(3) {
				expectAdd(t, p, q, promise{node, nil, -1})
			}
			expectAdd(t, p, q, promise{node, []api.Entry{en(node/2, bl(3, 0), fmt.Sprint(node)), en(9, bl(1+node%4, 0), fmt.Sprint(node))}, node % 2})
		}
		for _, c := range []*propose.Proposer{p, p.Copy()} {
			if got := all(c); first == "" {
				first = got
			} else if got != first {
				t.Errorf("%s, then %s", first, got)
			}
		}
	}
}

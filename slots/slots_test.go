package slots_test

import (
	"fmt"
	"math"
	"math/rand"
	"slices"
	"strings"
	"testing"

	"skald/api"
	"skald/slots"
)

const lastSlot = 4095

// places are numbers in and around what is allowed, and far away.
var places = []int{math.MinInt, math.MinInt + 1, -1 << 32, -4096, -2, -1, 0, 1, 2, 3, 4, 5, 6, 7, 8, 9, 99, 100, 101, 102, 103, 4093, 4094, 4095, 4096, 4097, 4098, 1 << 32, 1<<32 + 1, math.MaxInt - 1, math.MaxInt}

// values are allowed, up to the longest one; the one in long is not.
var (
	values = []string{"", "x", "\x00", "\xff\xfe", "äöü", strings.Repeat("v", 65535), strings.Repeat("v", 65536)}
	long   = strings.Repeat("v", 65537)
)

// plain is a log as the chapter defines it: a place for each slot that there is, and whether a value stands there.
type plain struct {
	base   int
	has    [lastSlot + 1]bool
	values [lastSlot + 1]string
}

func (p *plain) copy() *plain {
	c := *p
	return &c
}

func (p *plain) put(slot int, value string) api.Errno {
	switch {
	case slot < 0, slot > 4095:
		return api.ErrArg
	case len(value) > 65536:
		return api.ErrLong
	case slot < p.base:
		return api.ErrOrder
	case p.has[slot] && p.values[slot] != value:
		return api.ErrState
	}
	p.has[slot], p.values[slot] = true, value
	return api.OK
}

func (p *plain) get(slot int) (string, bool) {
	if slot < 0 || slot > 4095 || !p.has[slot] {
		return "", false
	}
	return p.values[slot], true
}

func (p *plain) upto() int {
	if i := slices.Index(p.has[p.base:], false); i >= 0 {
		return p.base + i
	}
	return 4096
}

func (p *plain) forget(upto int) api.Errno {
	switch {
	case upto < 0, upto > 4096:
		return api.ErrArg
	case upto > p.upto():
		return api.ErrRange
	}
	p.begin(upto)
	return api.OK
}

func (p *plain) jump(upto int) api.Errno {
	switch {
	case upto < 0, upto > 4096:
		return api.ErrArg
	case upto < p.upto():
		return api.ErrOrder
	}
	p.begin(upto)
	return api.OK
}

// begin makes a number the base, unless this is greater already.
func (p *plain) begin(base int) {
	p.base = max(p.base, base)
	for slot := range p.base {
		p.has[slot], p.values[slot] = false, ""
	}
}

func (p *plain) prefix() []string {
	return p.values[p.base:p.upto()]
}

func (p *plain) gaps() []int {
	var gaps []int
	greater := false // whether a greater slot has a value
	for slot := lastSlot; slot >= p.base; slot-- {
		if greater && !p.has[slot] {
			gaps = append(gaps, slot)
		}
		greater = greater || p.has[slot]
	}
	slices.Reverse(gaps)
	return gaps
}

// list returns a text for each value, at most twenty of them.
func list(l []string) string {
	text := ""
	for i, value := range l {
		if i == 20 {
			return text + fmt.Sprint(" .. ", len(l))
		}
		text += fmt.Sprintf(" %.9q(%d)", value, len(value))
	}
	return text
}

// expectGet checks what stands at a slot.
func expectGet(t *testing.T, l *slots.Log, p *plain, slot int) {
	t.Helper()
	value, is := l.Get(slot)
	if want, wantIs := p.get(slot); value != want || is != wantIs {
		t.Fatalf("Get(%d): %.9q (%d bytes), %t; want %.9q (%d bytes), %t", slot, value, len(value), is, want, len(want), wantIs)
	}
}

// expectSame checks what a log tells of itself as a whole, and what stands at some slots.
func expectSame(t *testing.T, l *slots.Log, p *plain) {
	t.Helper()
	if l.Base() != p.base || l.Upto() != p.upto() {
		t.Fatalf("Base %d, Upto %d; want %d, %d", l.Base(), l.Upto(), p.base, p.upto())
	}
	if prefix := l.Prefix(); !slices.Equal(prefix, p.prefix()) {
		t.Fatalf("Prefix:%s; want%s", list(prefix), list(p.prefix()))
	}
	if gaps := l.Gaps(); !slices.Equal(gaps, p.gaps()) {
		t.Fatalf("Gaps: %v; want %v", gaps, p.gaps())
	}
	for _, slot := range places {
		expectGet(t, l, p, slot)
	}
}

// expectAll checks all that a log tells, and that being asked does not change what it tells next.
func expectAll(t *testing.T, l *slots.Log, p *plain) {
	t.Helper()
	expectSame(t, l, p)
	expectSame(t, l, p)
	for slot := -1; slot <= lastSlot+1; slot++ {
		expectGet(t, l, p, slot)
	}
}

func expectPut(t *testing.T, l *slots.Log, p *plain, slot int, value string) api.Errno {
	t.Helper()
	e := l.Put(slot, value)
	if want := p.put(slot, value); e != want {
		t.Fatalf("Put(%d, %.9q (%d bytes)): %d, want %d", slot, value, len(value), e, want)
	}
	return e
}

func expectForget(t *testing.T, l *slots.Log, p *plain, upto int) api.Errno {
	t.Helper()
	e := l.Forget(upto)
	if want := p.forget(upto); e != want {
		t.Fatalf("Forget(%d): %d, want %d", upto, e, want)
	}
	return e
}

func expectJump(t *testing.T, l *slots.Log, p *plain, upto int) api.Errno {
	t.Helper()
	e := l.Jump(upto)
	if want := p.jump(upto); e != want {
		t.Fatalf("Jump(%d): %d, want %d", upto, e, want)
	}
	return e
}

// kinds calls a function for logs of many kinds, each time with ones that nobody else has: with several bases, and
// values at some slots from the base on.
func kinds(t *testing.T, do func(l *slots.Log, p *plain)) {
	t.Helper()
	for _, base := range []int{0, 1, 2, 5, 100, 4094, 4095, 4096} {
		for _, at := range [][]int{{}, {0}, {1}, {0, 1}, {0, 2}, {1, 2}, {2, 1, 0}, {0, 1, 3, 5}, {3}, {0, 4, 1, 2, 7}} {
			l, p := slots.New(), &plain{}
			expectJump(t, l, p, base)
			for i, offset := range at {
				if base+offset <= lastSlot {
					expectPut(t, l, p, base+offset, fmt.Sprint("v", i))
				}
			}
			do(l.Copy(), p.copy())
			if base <= lastSlot && len(at) == 2 {
				expectPut(t, l, p, lastSlot, "last")
				do(l, p)
			}
		}
	}
}

// is checks that something is what it has to be.
func is[T comparable](t *testing.T, got, want T) {
	t.Helper()
	if got != want {
		t.Errorf("%v, want %v", got, want)
	}
}

// P15.2 to P15.6: the chapter's examples.
func TestExamples(t *testing.T) {
	l := slots.New()
	is(t, l.Put(1, "b"), api.OK)
	is(t, l.Upto(), 0)
	is(t, l.Put(0, "a"), api.OK)
	is(t, l.Upto(), 2)
	is(t, l.Put(4, "e"), api.OK)
	is(t, list(l.Prefix()), list([]string{"a", "b"}))
	is(t, fmt.Sprint(l.Gaps()), "[2 3]")
	is(t, l.Put(1, "c"), api.ErrState)
	is(t, l.Put(1, "b"), api.OK)
	is(t, l.Put(4096, ""), api.ErrArg)
	is(t, l.Forget(3), api.ErrRange)
	is(t, l.Forget(1), api.OK)
	is(t, l.Base(), 1)
	is(t, list(l.Prefix()), list([]string{"b"}))
	value, has := l.Get(0)
	is(t, value, "")
	is(t, has, false)
	is(t, l.Put(0, "a"), api.ErrOrder)
	is(t, l.Forget(0), api.OK)
	is(t, l.Base(), 1)
	is(t, l.Jump(1), api.ErrOrder)
	is(t, l.Jump(3), api.OK)
	is(t, l.Upto(), 3)
	is(t, fmt.Sprint(l.Gaps()), "[3]")
	is(t, l.Jump(4), api.OK)
	is(t, l.Upto(), 5)
	is(t, l.Jump(4096), api.OK)
	is(t, l.Upto(), 4096)
	is(t, l.Put(4095, "z"), api.ErrOrder)
}

// P15.1: a new log has the base 0 and no values; two new ones have nothing in common.
func TestNew(t *testing.T) {
	l := slots.New()
	expectAll(t, l, &plain{})
	is(t, l.Base(), 0)
	is(t, l.Upto(), 0)
	is(t, len(l.Prefix()), 0)
	is(t, len(l.Gaps()), 0)
	other, p := slots.New(), &plain{}
	expectPut(t, other, p, 0, "x")
	expectForget(t, other, p, 1)
	expectPut(t, other, p, 3, "y")
	expectAll(t, l, &plain{})
	expectAll(t, slots.New(), &plain{})
}

// P15.1: a copy has the same base, and the same values.
func TestCopy(t *testing.T) {
	kinds(t, func(l *slots.Log, p *plain) {
		expectAll(t, l.Copy(), p)
		expectAll(t, l.Copy().Copy(), p)
		expectAll(t, l, p)
	})
}

// P15.1, R8: neither a log nor its copy is changed by what becomes of the other one; both can go on alike.
func TestCopyAlone(t *testing.T) {
	change := []func(l *slots.Log, p *plain){
		func(l *slots.Log, p *plain) {
			for slot := p.base; slot <= min(lastSlot, p.base+8); slot++ {
				expectPut(t, l, p, slot, "new")
			}
		},
		func(l *slots.Log, p *plain) { expectForget(t, l, p, p.upto()) },
		func(l *slots.Log, p *plain) { expectJump(t, l, p, min(4096, p.upto()+2)) },
		func(l *slots.Log, p *plain) { expectJump(t, l, p, 4096) },
	}
	kinds(t, func(l *slots.Log, p *plain) {
		for _, do := range change {
			c, q := l.Copy(), p.copy()
			d, r := c.Copy(), q.copy()
			do(c, q)
			expectSame(t, c, q)
			expectSame(t, d, r)
			expectSame(t, l, p)
			do(d, r)
			expectSame(t, d, q)
			expectSame(t, c, r)
		}
		c, q := l.Copy(), p.copy()
		for _, do := range change {
			do(l, p)
			expectSame(t, c, q)
		}
	})
}

// P15.2, P15.10: Put takes the slots from the base up to the last one, whatever stands at others, and one value for each.
func TestPut(t *testing.T) {
	kinds(t, func(l *slots.Log, p *plain) {
		for _, slot := range append([]int{p.base - 1, p.base, p.base + 1, p.upto() - 1, p.upto(), p.upto() + 1}, places...) {
			for _, value := range append([]string{"v0", "v1", "v2", long}, values...) {
				c, q := l, p
				if slot >= p.base { // others are refused, and leave the log to those that follow
					c, q = l.Copy(), p.copy()
				}
				if expectPut(t, c, q, slot, value) == api.OK {
					expectPut(t, c, q, slot, value+".")
					expectPut(t, c, q, slot, value)
					expectSame(t, c, q)
				}
			}
			expectSame(t, l, p)
		}
		expectAll(t, l, p)
	})
}

// P15.2: of several errors, Put names the first one.
func TestPutErrors(t *testing.T) {
	l := slots.New()
	is(t, l.Jump(3), api.OK)
	is(t, l.Put(3, ""), api.OK)
	for _, x := range []struct {
		slot  int
		value string
		want  api.Errno
	}{
		{-1, long, api.ErrArg}, {-1, "x", api.ErrArg}, {4096, long, api.ErrArg}, {4096, "x", api.ErrArg},
		{2, long, api.ErrLong}, {3, long, api.ErrLong}, {4, long, api.ErrLong}, {4095, long, api.ErrLong},
		{0, "", api.ErrOrder}, {2, "x", api.ErrOrder}, {2, values[6], api.ErrOrder},
		{3, "x", api.ErrState}, {3, values[6], api.ErrState},
		{3, "", api.OK}, {4, values[6], api.OK}, {4095, "", api.OK},
	} {
		is(t, l.Put(x.slot, x.value), x.want)
	}
}

// P15.2, P15.3, R7: values of all bytes and lengths up to MaxText, also of no bytes, are told as they were put; ones that
// differ in a single byte, or in their lengths, are others.
func TestValues(t *testing.T) {
	all := append([]string{"y", "xy", "\x00\x00", strings.Repeat("v", 65535) + "w", "w" + strings.Repeat("v", 65535)}, values...)
	for _, slot := range []int{0, 1, lastSlot} {
		for _, value := range all {
			for _, second := range all {
				l := slots.New()
				is(t, l.Put(slot, value), api.OK)
				want := api.ErrState
				if value == second {
					want = api.OK
				}
				is(t, l.Put(slot, second), want)
				is(t, l.Put(slot, long), api.ErrLong)
				if got, has := l.Get(slot); got != value || !has {
					t.Errorf("Get(%d): %.9q (%d bytes), %t", slot, got, len(got), has)
				}
			}
		}
	}
	l, p := slots.New(), &plain{}
	for i, value := range all {
		expectPut(t, l, p, i, value)
	}
	expectAll(t, l, p)
}

// P15.3: values stand only where they were put; not below the base, and not beyond the slots.
func TestGet(t *testing.T) {
	kinds(t, func(l *slots.Log, p *plain) { expectAll(t, l, p) })
}

// P15.4, P15.10: Forget takes numbers of slots up to the first missing slot; those that are not above the base change
// nothing.
func TestForget(t *testing.T) {
	kinds(t, func(l *slots.Log, p *plain) {
		for _, upto := range append([]int{p.base - 1, p.base, p.base + 1, p.upto() - 1, p.upto(), p.upto() + 1}, places...) {
			c, q := l.Copy(), p.copy()
			before := p.upto()
			if e := expectForget(t, c, q, upto); e == api.OK {
				is(t, c.Base(), max(p.base, upto))
				is(t, c.Upto(), before)
			}
			expectSame(t, c, q)
			expectForget(t, c, q, upto)
			expectSame(t, c, q)
		}
		expectAll(t, l, p)
	})
}

// P15.5, P15.10: Jump takes numbers of slots from the first missing slot on, whatever is missing below them.
func TestJump(t *testing.T) {
	kinds(t, func(l *slots.Log, p *plain) {
		for _, upto := range append([]int{p.base - 1, p.base, p.base + 1, p.upto() - 1, p.upto(), p.upto() + 1, p.upto() + 3}, places...) {
			c, q := l.Copy(), p.copy()
			if e := expectJump(t, c, q, upto); e == api.OK {
				is(t, c.Base(), upto)
			} else {
				is(t, c.Base(), p.base)
			}
			expectSame(t, c, q)
			expectJump(t, c, q, upto)
			expectSame(t, c, q)
		}
		expectAll(t, l, p)
	})
}

// P15.4, P15.5, P15.7: where a slot was forgotten, no value is put any more, not even the same one; behind the base, values
// are put as before.
func TestForgotten(t *testing.T) {
	for _, jump := range []bool{false, true} {
		l, p := slots.New(), &plain{}
		for slot := range 10 {
			expectPut(t, l, p, slot, fmt.Sprint(slot))
		}
		if jump {
			expectJump(t, l, p, 10)
		} else {
			expectForget(t, l, p, 10)
		}
		for slot := range 10 {
			is(t, l.Put(slot, fmt.Sprint(slot)), api.ErrOrder)
			is(t, l.Put(slot, ""), api.ErrOrder)
			expectGet(t, l, p, slot)
		}
		expectPut(t, l, p, 11, "11")
		expectAll(t, l, p)
		expectPut(t, l, p, 10, "10")
		expectAll(t, l, p)
	}
}

// P15.4, P15.5, P15.3: the numbers of slots that are ends: a base of MaxSlots, behind which nothing is put, and behind
// which nothing is missing.
func TestEnd(t *testing.T) {
	for _, first := range []int{0, 4090, 4095} {
		l, p := slots.New(), &plain{}
		is(t, expectJump(t, l, p, first), api.OK)
		for slot := lastSlot; slot > first; slot-- {
			expectPut(t, l, p, slot, fmt.Sprint(slot))
		}
		is(t, l.Upto(), first)
		expectPut(t, l, p, first, fmt.Sprint(first))
		is(t, l.Upto(), 4096)
		is(t, len(l.Prefix()), 4096-first)
		is(t, len(l.Gaps()), 0)
		expectAll(t, l, p)
		is(t, expectJump(t, l, p, 4095), api.ErrOrder)
		c, q := l.Copy(), p.copy()
		is(t, expectForget(t, l, p, 4096), api.OK)
		is(t, expectJump(t, c, q, 4096), api.OK)
		for _, end := range []struct {
			l *slots.Log
			p *plain
		}{{l, p}, {c, q}} {
			expectAll(t, end.l, end.p)
			is(t, end.l.Base(), 4096)
			is(t, end.l.Upto(), 4096)
			is(t, len(end.l.Prefix())+len(end.l.Gaps()), 0)
			is(t, expectPut(t, end.l, end.p, lastSlot, "x"), api.ErrOrder)
			is(t, expectPut(t, end.l, end.p, 4096, "x"), api.ErrArg)
			is(t, expectForget(t, end.l, end.p, 4096), api.OK)
			is(t, expectJump(t, end.l, end.p, 4096), api.OK)
			is(t, expectForget(t, end.l, end.p, 4097), api.ErrArg)
			is(t, expectJump(t, end.l, end.p, 4097), api.ErrArg)
			is(t, expectForget(t, end.l, end.p, 0), api.OK)
			is(t, expectJump(t, end.l, end.p, 0), api.ErrOrder)
			expectAll(t, end.l, end.p)
		}
	}
}

// P15.3, P15.6, P15.8: with values at any of seven slots, behind any base: which values are in front of the first missing
// slot, and which slots are missing between others.
func TestPrefixGaps(t *testing.T) {
	for _, base := range []int{0, 1, 50, 4089} {
		for set := range 1 << 7 {
			l, p := slots.New(), &plain{}
			expectJump(t, l, p, base)
			for i := range 7 {
				if set>>i&1 == 1 {
					expectPut(t, l, p, base+i, fmt.Sprint("v", i))
				}
			}
			expectSame(t, l, p)
			for first := 0; first <= 7; first++ {
				c, q := l.Copy(), p.copy()
				expectForget(t, c, q, base+first)
				expectSame(t, c, q)
				c, q = l.Copy(), p.copy()
				expectJump(t, c, q, base+first)
				expectSame(t, c, q)
			}
		}
	}
}

// P15.6: gaps of all lengths, up to all slots but the last one.
func TestLongGaps(t *testing.T) {
	for _, base := range []int{0, 1, 2000, 4094, 4095} {
		l, p := slots.New(), &plain{}
		expectJump(t, l, p, base)
		expectPut(t, l, p, lastSlot, "z")
		is(t, len(l.Gaps()), lastSlot-base)
		expectAll(t, l, p)
		for _, slot := range []int{base, base + 1, 2500, 2501, 4094} {
			expectPut(t, l, p, slot, "y")
			expectAll(t, l, p)
		}
	}
}

// orders calls a function for all orders of the numbers from 0 to n - 1.
func orders(n int, do func(order []int)) {
	var next func(order []int)
	next = func(order []int) {
		if len(order) == n {
			do(order)
		}
		for x := range n {
			if !slices.Contains(order, x) {
				next(append(slices.Clone(order), x))
			}
		}
	}
	next(nil)
}

// P15.9: values at some slots lead to the same log in each order, also if some are put again or refused between them.
func TestOrders(t *testing.T) {
	for _, at := range [][]int{{0, 1, 2, 3, 4}, {1, 2, 4, 4094, 4095}, {3, 9, 10, 11, 20}} {
		want := &plain{}
		for _, slot := range at {
			want.put(slot, fmt.Sprint(slot))
		}
		orders(len(at), func(order []int) {
			l, p := slots.New(), &plain{}
			for _, i := range order {
				for _, slot := range []int{at[i], at[order[0]]} {
					expectPut(t, l, p, slot, fmt.Sprint(slot))
					expectPut(t, l, p, slot, "another one")
				}
				is(t, l.Upto(), p.upto())
			}
			expectSame(t, l, p)
			expectSame(t, l, want)
		})
	}
}

// P15.9: all slots in random orders, behind several bases.
func TestLongOrders(t *testing.T) {
	for seed := range int64(6) {
		r := rand.New(rand.NewSource(seed))
		base := []int{0, 3, 4000}[seed%3]
		want := &plain{}
		want.jump(base)
		for slot := base; slot <= lastSlot; slot++ {
			want.put(slot, fmt.Sprint(slot))
		}
		l, p := slots.New(), &plain{}
		expectJump(t, l, p, base)
		for _, slot := range r.Perm(lastSlot + 1) {
			expectPut(t, l, p, slot, fmt.Sprint(slot))
			if r.Intn(100) == 0 {
				expectSame(t, l, p)
			}
		}
		expectAll(t, l, want)
	}
}

// P15.1 to P15.6: all courses of up to four calls out of some, with a copy that stays as it was.
func TestShortCourses(t *testing.T) {
	var calls []func(l *slots.Log, p *plain) api.Errno
	for n := range 5 {
		calls = append(calls,
			func(l *slots.Log, p *plain) api.Errno { return expectForget(t, l, p, n) },
			func(l *slots.Log, p *plain) api.Errno { return expectJump(t, l, p, n) },
			func(l *slots.Log, p *plain) api.Errno { return expectPut(t, l, p, n, "x") })
	}
	calls = append(calls, func(l *slots.Log, p *plain) api.Errno { return expectPut(t, l, p, 1, "y") })
	var goOn func(l *slots.Log, p *plain, n int)
	goOn = func(l *slots.Log, p *plain, n int) {
		if n == 4 {
			return
		}
		for _, call := range calls {
			c, q := l.Copy(), p.copy()
			e := call(c, q)
			if c.Base() != q.base || c.Upto() != q.upto() || !slices.Equal(c.Prefix(), q.prefix()) {
				t.Fatalf("Base %d, Upto %d, Prefix%s; want %d, %d,%s", c.Base(), c.Upto(), list(c.Prefix()), q.base, q.upto(), list(q.prefix()))
			}
			for slot := range 5 {
				expectGet(t, c, q, slot)
			}
			if e == api.OK { // after an error the log is as it was: the same courses would follow
				goOn(c, q, n+1)
			}
		}
	}
	goOn(slots.New(), &plain{}, 0)
}

// watch is what a log must not lose from one call to the next.
type watch struct {
	base, upto int
	values     map[int]string
}

// look returns what stands in a log, and checks that it has lost nothing since the last look, and that its questions agree
// with each other.
func (w watch) look(t *testing.T, l *slots.Log) watch {
	t.Helper()
	now := watch{l.Base(), l.Upto(), map[int]string{}}
	for slot := range lastSlot + 1 {
		if value, has := l.Get(slot); has {
			now.values[slot] = value
		}
	}
	if now.base < w.base || now.upto < w.upto || now.upto < now.base {
		t.Fatalf("from %d, %d to %d, %d", w.base, w.upto, now.base, now.upto)
	}
	for slot, value := range w.values {
		if got, has := now.values[slot]; has != (slot >= now.base) || has && got != value {
			t.Fatalf("base %d: %q at %d became %q, %t", now.base, value, slot, got, has)
		}
	}
	for slot := range now.values {
		if slot < now.base {
			t.Fatalf("base %d: a value at %d", now.base, slot)
		}
	}
	prefix, gaps := l.Prefix(), l.Gaps()
	if len(prefix) != now.upto-now.base || len(gaps) > 0 && gaps[0] != now.upto {
		t.Fatalf("Base %d, Upto %d: %d values, gaps %v", now.base, now.upto, len(prefix), gaps)
	}
	return now
}

// course does a number of calls of all kinds, of which many are not allowed.
func course(t *testing.T, r *rand.Rand, l *slots.Log, p *plain, n int) {
	t.Helper()
	for range n {
		near := p.upto() + r.Intn(9) - 4
		if r.Intn(20) == 0 {
			near = places[r.Intn(len(places))]
		}
		switch k := r.Intn(10); {
		case k == 0:
			expectForget(t, l, p, near)
		case k == 1 && r.Intn(3) == 0 && near < 4000:
			expectJump(t, l, p, near)
		case k == 2:
			expectPut(t, l, p, near, long)
		case k == 3:
			expectPut(t, l, p, near, values[r.Intn(len(values))])
		default:
			expectPut(t, l, p, near, fmt.Sprint("v", near))
		}
	}
}

// P15.1 to P15.8, P15.10: long courses of calls, with copies of which one goes on.
func TestLongCourses(t *testing.T) {
	for seed := range int64(150) {
		r := rand.New(rand.NewSource(seed))
		l, p := slots.New(), &plain{}
		if seed%3 == 1 {
			expectJump(t, l, p, 4080)
		}
		var w watch
		for range 10 {
			c, q := l.Copy(), p.copy()
			course(t, r, c, q, 1+r.Intn(12))
			expectSame(t, c, q)
			expectSame(t, l, p)
			course(t, r, l, p, r.Intn(4))
			expectSame(t, l, p)
			expectSame(t, c, q)
			if r.Intn(2) == 0 {
				w.look(t, c)
				l, p = c, q
			}
			w = w.look(t, l)
		}
		expectAll(t, l, p)
	}
}

// P15.7, P15.8: each single call, refused or not, loses nothing.
func TestNothingLost(t *testing.T) {
	for seed := range int64(40) {
		r := rand.New(rand.NewSource(seed))
		l, p := slots.New(), &plain{}
		var w watch
		for range 60 {
			course(t, r, l, p, 1)
			w = w.look(t, l)
		}
		expectAll(t, l, p)
	}
}

// R2: a log that New did not make is not valid, for calls of all kinds and before all other errors.
func TestNotValid(t *testing.T) {
	for _, l := range []*slots.Log{nil, {}, new(slots.Log)} {
		for _, place := range places {
			for _, value := range []string{"", "x", long} {
				is(t, l.Put(place, value), api.ErrNil)
			}
			is(t, l.Forget(place), api.ErrNil)
			is(t, l.Jump(place), api.ErrNil)
			value, has := l.Get(place)
			is(t, value, "")
			is(t, has, false)
		}
		is(t, l.Upto(), 0)
		is(t, l.Base(), 0)
		is(t, len(l.Prefix()), 0)
		is(t, len(l.Gaps()), 0)
		is(t, l.Copy(), nil)
	}
}

// R4: results are new memory.
func TestMemory(t *testing.T) {
	l, p := slots.New(), &plain{}
	for _, slot := range []int{0, 1, 2, 5, 8} {
		expectPut(t, l, p, slot, fmt.Sprint("v", slot))
	}
	c := l.Copy()
	prefixes, gaps := [][]string{l.Prefix(), l.Prefix(), c.Prefix()}, [][]int{l.Gaps(), l.Gaps(), c.Gaps()}
	for i := range 3 {
		prefix, gap := slices.Clone(prefixes[i]), slices.Clone(gaps[i])
		for j := range prefixes[i] {
			prefixes[i][j] = "changed"
		}
		for j := range gaps[i] {
			gaps[i][j] = 9
		}
		_ = append(prefixes[i][:1], "also")
		_ = append(gaps[i][:1], 8)
		if !slices.Equal(prefix, p.prefix()) || !slices.Equal(gap, p.gaps()) {
			t.Errorf("results share memory:%s, %v", list(prefix), gap)
		}
		expectSame(t, l, p)
		expectSame(t, c, p)
	}
}

// R8: logs in equal states answer equally, whatever led there.
func TestSameAgain(t *testing.T) {
	all := func(l *slots.Log) string {
		text := fmt.Sprint(l.Base(), l.Upto(), l.Prefix(), l.Gaps())
		for n := range 20 {
			c := l.Copy()
			text += fmt.Sprint(c.Put(n, "v10"), c.Forget(n), c.Jump(n), c.Prefix(), c.Gaps())
		}
		return text
	}
	var first string
	for seed := range int64(30) {
		r := rand.New(rand.NewSource(seed))
		l := slots.New()
		for base := 0; base < 3; {
			base += 1 + r.Intn(3-base)
			is(t, l.Jump(base), api.OK)
		}
		for _, i := range r.Perm(4) {
			slot := []int{3, 4, 10, 15}[i]
			for range 1 + r.Intn(3) {
				is(t, l.Put(slot, fmt.Sprint("v", slot)), api.OK)
				is(t, l.Put(slot, "other"), api.ErrState)
				is(t, l.Forget(-r.Intn(2)-1), api.ErrArg)
			}
		}
		for _, c := range []*slots.Log{l, l.Copy()} {
			if got := all(c); first == "" {
				first = got
			} else if got != first {
				t.Errorf("%s, then %s", first, got)
			}
		}
	}
}

package dedup_test

import (
	"fmt"
	"math"
	"math/rand"
	"regexp"
	"slices"
	"strings"
	"testing"

	"skald/api"
	"skald/dedup"
)

// memory is an effect with its key and its reply.
type memory struct {
	e   api.Effect
	key string
	r   api.Reply
}

// plain is a table as the chapter defines it: a size, and effects in the order in which they were put.
type plain struct {
	size int
	l    []memory
}

var name = regexp.MustCompile(`^[a-z0-9]{1,16}$`)

func effect(saga, step, phase int) api.Effect {
	return api.Effect{Saga: saga, Step: step, Phase: phase}
}

func between(n, low, high int64) bool {
	return low <= n && n <= high
}

func isEffect(e api.Effect) bool {
	return between(int64(e.Saga), 1, 9999) && between(int64(e.Step), 0, 7) && between(int64(e.Phase), 1, 3)
}

func isReply(r api.Reply) bool {
	return between(int64(r.Err), 0, 18) && between(r.Num, -(1<<60), 1<<60) && len(r.Data) <= 65536
}

func isRange(r api.Range) bool {
	isEnd := func(s string) bool { return s == "" || name.MatchString(s) }
	return isEnd(r.From) && isEnd(r.To) && (r.To == "" || r.From < r.To)
}

func in(r api.Range, key string) bool {
	return r.From <= key && (r.To == "" || key < r.To)
}

// sorted returns the effects in their order: by Saga, then by Step, then by Phase.
func sorted(l []memory) []api.Effect {
	var all []api.Effect
	for _, x := range l {
		all = append(all, x.e)
	}
	weight := func(e api.Effect) int { return e.Saga*1000 + e.Step*10 + e.Phase }
	slices.SortFunc(all, func(a, b api.Effect) int { return weight(a) - weight(b) })
	return all
}

func (p *plain) copy() *plain {
	return &plain{p.size, slices.Clone(p.l)}
}

func (p *plain) find(e api.Effect) (memory, bool) {
	for _, x := range p.l {
		if x.e == e {
			return x, true
		}
	}
	return memory{}, false
}

func (p *plain) put(e api.Effect, key string, r api.Reply) api.Errno {
	if !isEffect(e) || !name.MatchString(key) || !isReply(r) {
		return api.ErrArg
	}
	if _, have := p.find(e); have {
		return api.ErrHave
	}
	if len(p.l) == p.size {
		return api.ErrFull
	}
	p.l = append(p.l, memory{e, key, r})
	return api.OK
}

func (p *plain) take(r api.Range) ([]api.Effect, api.Errno) {
	if !isRange(r) {
		return nil, api.ErrArg
	}
	var taken, rest []memory
	for _, x := range p.l {
		if in(r, x.key) {
			taken = append(taken, x)
		} else {
			rest = append(rest, x)
		}
	}
	p.l = rest
	return sorted(taken), api.OK
}

// strange are effects that are not valid, or in no table here.
var strange = []api.Effect{{}, effect(0, 0, 1), effect(1, 8, 1), effect(1, 0, 4), effect(1, -1, 1), effect(1, 0, 0), effect(-1, 0, 1), effect(10000, 0, 1), effect(9998, 7, 3)}

// expectSame checks all that can be asked of a table.
func expectSame(t *testing.T, d *dedup.Done, p *plain) {
	t.Helper()
	if got, want := d.All(), sorted(p.l); !slices.Equal(got, want) {
		t.Fatalf("All: %v, want %v", got, want)
	}
	if d.Len() != len(p.l) || d.Room() != p.size-len(p.l) {
		t.Fatalf("%d effects, room for %d; want %d of %d", d.Len(), d.Room(), len(p.l), p.size)
	}
	for _, x := range p.l {
		if r, is := d.Get(x.e); r != x.r || !is {
			t.Fatalf("Get(%v): %.40v, %t; want %.40v", x.e, r, is, x.r)
		}
		if key, is := d.Key(x.e); key != x.key || !is {
			t.Fatalf("Key(%v): %q, %t; want %q", x.e, key, is, x.key)
		}
	}
	for _, e := range strange {
		expectNone(t, d, e)
	}
}

// expectNone checks that an effect is not in a table.
func expectNone(t *testing.T, d *dedup.Done, e api.Effect) {
	t.Helper()
	if r, is := d.Get(e); r != (api.Reply{}) || is {
		t.Fatalf("Get(%v): %.40v, %t", e, r, is)
	}
	if key, is := d.Key(e); key != "" || is {
		t.Fatalf("Key(%v): %q, %t", e, key, is)
	}
}

// expectPut puts into the table and into what has to stand in it.
func expectPut(t *testing.T, d *dedup.Done, p *plain, e api.Effect, key string, r api.Reply) api.Errno {
	t.Helper()
	got, want := d.Put(e, key, r), p.put(e, key, r)
	if got != want {
		t.Fatalf("Put(%v, %.20q, %.40v): %d, want %d", e, key, r, got, want)
	}
	return got
}

// expectTake takes out of the table and out of what has to stand in it.
func expectTake(t *testing.T, d *dedup.Done, p *plain, r api.Range) []api.Effect {
	t.Helper()
	got, e := d.Take(r)
	want, wantE := p.take(r)
	if !slices.Equal(got, want) || e != wantE {
		t.Fatalf("Take(%+v): %v, %d; want %v, %d", r, got, e, want, wantE)
	}
	return got
}

// empty returns an empty table.
func empty(t *testing.T, size int) (*dedup.Done, *plain) {
	t.Helper()
	d, e := dedup.New(size)
	if d == nil || e != api.OK {
		t.Fatalf("New(%d): %v, %d", size, d, e)
	}
	return d, &plain{size: size}
}

// filled returns a table with some room, and what stands in it.
func filled(t *testing.T, room int, l ...memory) (*dedup.Done, *plain) {
	t.Helper()
	d, p := empty(t, len(l)+room)
	for _, x := range l {
		if e := expectPut(t, d, p, x.e, x.key, x.r); e != api.OK {
			t.Fatalf("Put(%v): %d", x.e, e)
		}
	}
	expectSame(t, d, p)
	return d, p
}

// example is the table of the chapter's examples.
func example(t *testing.T) (*dedup.Done, *plain) {
	t.Helper()
	return filled(t, 0, memory{effect(1, 0, 1), "b", api.Reply{Num: 5}}, memory{effect(1, 1, 1), "d", api.Reply{Err: api.ErrOver}}, memory{effect(1, 0, 2), "b", api.Reply{}})
}

// some returns n different effects with keys and replies, shuffled.
func some(n int, r *rand.Rand) []memory {
	var l []memory
	for i := range n {
		key := fmt.Sprintf("%c%d", 'a'+i%7, i%5)
		l = append(l, memory{effect(1+i/24, i/3%8, 1+i%3), key, api.Reply{Err: api.Errno(i % 19), Num: int64(i), Data: key}})
	}
	r.Shuffle(n, func(a, b int) { l[a], l[b] = l[b], l[a] })
	return l
}

// P9.1 to P9.5: the chapter's examples.
func TestExamples(t *testing.T) {
	d, _ := example(t)
	f, u, g := effect(1, 0, 1), effect(1, 0, 2), effect(1, 1, 1)
	if l := d.All(); !slices.Equal(l, []api.Effect{f, u, g}) || d.Len() != 3 || d.Room() != 0 {
		t.Errorf("All, Len, Room: %v, %d, %d", l, d.Len(), d.Room())
	}
	if r, is := d.Get(f); r != (api.Reply{Num: 5}) || !is {
		t.Errorf("Get of 1/0/f: %v, %t", r, is)
	}
	if key, is := d.Key(g); key != "d" || !is {
		t.Errorf("Key of 1/1/f: %q, %t", key, is)
	}
	expectNone(t, d, effect(2, 0, 1))
	for _, x := range []struct {
		e    api.Effect
		want api.Errno
	}{{f, api.ErrHave}, {effect(2, 0, 1), api.ErrFull}, {effect(0, 0, 1), api.ErrArg}} {
		if e := d.Put(x.e, "b", api.Reply{}); e != x.want {
			t.Errorf("Put(%v): %d, want %d", x.e, e, x.want)
		}
	}
	if l, e := d.Take(api.Range{From: "a", To: "c"}); !slices.Equal(l, []api.Effect{f, u}) || e != api.OK {
		t.Errorf("Take: %v, %d", l, e)
	}
	if l := d.All(); !slices.Equal(l, []api.Effect{g}) || d.Room() != 2 {
		t.Errorf("All, Room: %v, %d", l, d.Room())
	}
	if l, e := d.Take(api.Range{From: "c", To: "a"}); len(l) != 0 || e != api.ErrArg || d.Len() != 1 {
		t.Errorf("Take: %v, %d", l, e)
	}
	if d, e := dedup.New(2049); d != nil || e != api.ErrArg {
		t.Errorf("New(2049): %v, %d", d, e)
	}
}

// P9.1: sizes from 0 to MaxDone, and those beyond.
func TestNew(t *testing.T) {
	for _, size := range []int{0, 1, 2, 64, 65, 2047, 2048} {
		d, p := empty(t, size)
		expectSame(t, d, p)
		expectSame(t, d.Copy(), p)
	}
	for _, size := range []int{math.MinInt, -2048, -2, -1, 2049, 2050, 65536, math.MaxInt} {
		if d, e := dedup.New(size); d != nil || e != api.ErrArg {
			t.Errorf("New(%d): %v, %d", size, d, e)
		}
	}
}

// P9.1: copies go on alone, also if what was copied has grown and shrunk before.
func TestCopy(t *testing.T) {
	r := rand.New(rand.NewSource(1))
	l := some(60, r)
	for n := range 50 {
		d, p := filled(t, 5, l[:n]...)
		d.Take(api.Range{From: "b", To: "c"})
		p.take(api.Range{From: "b", To: "c"})
		c, q := d.Copy(), p.copy()
		expectSame(t, c, q)
		expectPut(t, c, q, l[55].e, "c", api.Reply{Num: 1})
		expectSame(t, d, p)
		expectPut(t, d, p, l[56].e, "d", api.Reply{Num: 2})
		expectPut(t, d, p, l[55].e, "e", api.Reply{Num: 3})
		expectSame(t, c, q)
		expectTake(t, d, p, api.Range{From: "a", To: "d"})
		expectSame(t, c, q)
		expectTake(t, c, q, api.Range{From: "d"})
		expectSame(t, d, p)
		expectPut(t, c, q, l[56].e, "g", api.Reply{Data: "x"})
		expectSame(t, c, q)
		expectSame(t, d, p)
	}
}

// rightEffects are effects at the limits, and wrongEffects those next to them.
var (
	rightEffects = []api.Effect{effect(1, 0, 1), effect(9999, 7, 3), effect(1, 7, 2), effect(9999, 0, 2)}
	wrongEffects = []api.Effect{{}, effect(0, 0, 1), effect(10000, 0, 1), effect(-1, 0, 1), effect(math.MinInt, 0, 1), effect(math.MaxInt, 0, 1), effect(1, -1, 1), effect(1, 8, 1),
		effect(1, math.MaxInt, 1), effect(1, 0, 0), effect(1, 0, 4), effect(1, 0, -1), effect(1, 0, math.MinInt)}
	rightKeys    = []string{"a", "0", "az09", strings.Repeat("z", 16)}
	wrongKeys    = []string{"", "A", "a b", "é", "a/", "a-", "\x00", "a\n", "`", "{", ":", strings.Repeat("z", 17)}
	rightReplies = []api.Reply{{}, {Err: 1}, {Err: 17}, {Err: 18}, {Num: -1}, {Num: 1 << 60}, {Num: -(1 << 60)}, {Data: "\x00\xff é"}, {Err: 18, Num: 1 << 60, Data: strings.Repeat("é", 32768)}}
	wrongReplies = []api.Reply{{Err: -1}, {Err: 19}, {Err: math.MinInt}, {Err: math.MaxInt}, {Num: 1<<60 + 1}, {Num: -(1 << 60) - 1}, {Num: math.MinInt64}, {Num: math.MaxInt64},
		{Data: strings.Repeat("x", 65537)}, {Data: strings.Repeat("é", 32769)}, {Err: -1, Num: math.MaxInt64, Data: strings.Repeat("x", 70000)}}
)

// P9.2, P9.3: what is valid is put, also at the limits, and is there as it was put.
func TestPutRight(t *testing.T) {
	for _, e := range rightEffects {
		for _, key := range rightKeys {
			for _, r := range rightReplies {
				d, p := filled(t, 1, memory{effect(500, 3, 2), "m", api.Reply{Num: 9}})
				if f := expectPut(t, d, p, e, key, r); f != api.OK {
					t.Fatalf("Put(%v, %q, %.40v): %d", e, key, r, f)
				}
				expectSame(t, d, p)
				for _, again := range rightReplies {
					if f := expectPut(t, d, p, e, "other", again); f != api.ErrHave {
						t.Fatalf("Put(%v) again: %d", e, f)
					}
				}
				expectSame(t, d, p)
			}
		}
	}
}

// P9.2, P9.8: an effect, a key or a reply that is not valid is ErrArg, also if the effect is there or the table is full, and nothing changes.
func TestPutWrong(t *testing.T) {
	have := memory{effect(1, 0, 1), "a", api.Reply{Num: 9}}
	for room := range 2 {
		d, p := filled(t, room, have)
		wrong := func(e api.Effect, key string, r api.Reply) {
			t.Helper()
			if f := d.Put(e, key, r); f != api.ErrArg {
				t.Errorf("Put(%v, %.20q, %.40v): %d", e, key, r, f)
			}
		}
		for _, e := range wrongEffects {
			wrong(e, "a", api.Reply{})
			wrong(e, "A", api.Reply{})
			wrong(e, "a", api.Reply{Err: 19})
		}
		for _, e := range []api.Effect{have.e, effect(1, 0, 2)} {
			for _, key := range wrongKeys {
				wrong(e, key, api.Reply{})
				wrong(e, key, api.Reply{Err: 19})
			}
			for _, r := range wrongReplies {
				wrong(e, "a", r)
			}
		}
		expectSame(t, d, p)
	}
	d, p := empty(t, 0)
	for _, e := range wrongEffects {
		expectPut(t, d, p, e, "a", api.Reply{})
	}
	if e := expectPut(t, d, p, have.e, "a", api.Reply{}); e != api.ErrFull {
		t.Errorf("Put into a table of the size 0: %d", e)
	}
	expectSame(t, d, p)
}

// P9.2, P9.4, P9.8: there is room for as many effects as the size says, and for none beyond; ErrHave is named before ErrFull.
func TestFull(t *testing.T) {
	r := rand.New(rand.NewSource(2))
	for _, size := range []int{0, 1, 2, 3, 8, 24, 2047, 2048} {
		l := some(size+2, r)
		d, p := filled(t, 0, l[:size]...)
		for _, x := range l[size:] {
			if e := expectPut(t, d, p, x.e, x.key, x.r); e != api.ErrFull {
				t.Errorf("Put into a full table of the size %d: %d", size, e)
			}
		}
		if size == 0 {
			continue
		}
		for _, x := range []memory{l[0], l[size/2], l[size-1]} {
			if e := expectPut(t, d, p, x.e, "z", api.Reply{}); e != api.ErrHave {
				t.Errorf("Put of what is there into a full table: %d", e)
			}
		}
		expectSame(t, d, p)
		if e := d.Copy().Put(l[size].e, "z", api.Reply{}); e != api.ErrFull {
			t.Errorf("Put into the copy of a full table: %d", e)
		}
		key := l[size/2].key
		taken := expectTake(t, d, p, api.Range{From: key, To: key + "0"})
		for i, e := range taken {
			if f := expectPut(t, d, p, e, "z", api.Reply{Num: int64(i)}); f != api.OK {
				t.Errorf("Put of %v, which was taken: %d", e, f)
			}
		}
		if e := expectPut(t, d, p, l[size].e, "z", api.Reply{}); e != api.ErrFull {
			t.Errorf("Put into a table that is full again: %d", e)
		}
		expectSame(t, d, p)
	}
}

// P9.3: an effect that differs in one part is another one, with a key and a reply of its own.
func TestGet(t *testing.T) {
	r := rand.New(rand.NewSource(3))
	for range 30 {
		d, p := empty(t, 200)
		for i := range 100 {
			e := effect(1+r.Intn(4), r.Intn(8), 1+r.Intn(3))
			expectPut(t, d, p, e, fmt.Sprintf("k%d", i), api.Reply{Num: int64(i)})
		}
		expectSame(t, d, p)
		for saga := range 6 {
			for step := -1; step <= 8; step++ {
				for phase := range 5 {
					if _, have := p.find(effect(saga, step, phase)); !have {
						expectNone(t, d, effect(saga, step, phase))
					}
				}
			}
		}
	}
}

// P9.4: the order of effects is by saga, then by step, then by phase, as numbers and not as texts, however they were put.
func TestOrder(t *testing.T) {
	var l []memory
	for _, saga := range []int{1, 2, 9, 10, 11, 19, 20, 99, 100, 101, 999, 1000, 9999} {
		for _, step := range []int{0, 1, 7} {
			for phase := 1; phase <= 3; phase++ {
				l = append(l, memory{effect(saga, step, phase), "a", api.Reply{}})
			}
		}
	}
	want := sorted(l)
	slices.Reverse(l)
	for seed := range int64(20) {
		d, _ := filled(t, 0, l...)
		if got := d.All(); !slices.Equal(got, want) {
			t.Fatalf("All: %v", got)
		}
		if got, e := d.Take(api.Range{}); !slices.Equal(got, want) || e != api.OK {
			t.Fatalf("Take of everything: %v, %d", got, e)
		}
		rand.New(rand.NewSource(seed)).Shuffle(len(l), func(a, b int) { l[a], l[b] = l[b], l[a] })
	}
}

// ends are the ends of ranges: names, next to and between the keys in the tables, and texts that are no names.
var ends = []string{"", "0", "a", "a0", "a1", "b", "b0", "c", "c0", "z", "zzzzzzzzzzzzzzzz", "A", "b c", "é", strings.Repeat("b", 17)}

// P9.5, P9.7, P9.8: Take for all pairs of ends: those with a key from From on and below To go, the others stay; a range that is not valid is ErrArg.
func TestTake(t *testing.T) {
	l := []memory{{effect(3, 0, 1), "a", api.Reply{Num: 1}}, {effect(1, 0, 1), "b", api.Reply{Num: 2}}, {effect(2, 5, 3), "a", api.Reply{Num: 3}}, {effect(2, 5, 2), "c", api.Reply{Num: 4}},
		{effect(9, 0, 1), "a0", api.Reply{Num: 5}}, {effect(10, 0, 1), "b", api.Reply{Num: 6}}}
	refused := 0
	for _, from := range ends {
		for _, to := range ends {
			r := api.Range{From: from, To: to}
			d, p := filled(t, 1, l...)
			taken := expectTake(t, d, p, r)
			expectSame(t, d, p)
			if !isRange(r) {
				refused++
				if d.Len() != len(l) {
					t.Errorf("Take(%+v): %d are left", r, d.Len())
				}
				continue
			}
			for _, x := range l {
				gone := slices.Contains(taken, x.e)
				if gone != in(r, x.key) {
					t.Errorf("Take(%+v) of %v at %q: %t", r, x.e, x.key, gone)
				}
				if gone {
					expectNone(t, d, x.e)
				}
			}
			if again := expectTake(t, d, p, r); len(again) != 0 {
				t.Errorf("Take(%+v) again: %v", r, again)
			}
			none, q := empty(t, 3)
			expectTake(t, none, q, r)
			expectSame(t, none, q)
		}
	}
	if refused < 100 {
		t.Errorf("only %d ranges were not valid", refused)
	}
}

// P9.7: if two ranges have no key in common, it does not matter which one is taken first.
func TestEitherOrder(t *testing.T) {
	r := rand.New(rand.NewSource(4))
	apart := 0
	for _, cut := range ends {
		for _, end := range ends {
			for _, begin := range ends {
				low, high := api.Range{From: begin, To: cut}, api.Range{From: end}
				if cut == "" || end < cut || !isRange(low) || !isRange(high) {
					continue
				}
				apart++
				d, p := filled(t, 2, some(40, r)...)
				c, q := d.Copy(), p.copy()
				lows, highs := expectTake(t, d, p, low), expectTake(t, d, p, high)
				if l := expectTake(t, c, q, high); !slices.Equal(l, highs) {
					t.Errorf("%+v after %+v: %v; before it: %v", high, low, highs, l)
				}
				if l := expectTake(t, c, q, low); !slices.Equal(l, lows) {
					t.Errorf("%+v before %+v: %v; after it: %v", low, high, lows, l)
				}
				expectSame(t, d, q)
				expectSame(t, c, p)
			}
		}
	}
	if apart < 100 {
		t.Errorf("only %d pairs", apart)
	}
}

// P9.6: what was put stays, with its key and its reply, whatever else is called, until it is taken; it can be put just once until then.
func TestOnce(t *testing.T) {
	r := rand.New(rand.NewSource(5))
	for _, kept := range []memory{{effect(1, 0, 1), "m", api.Reply{Num: 5, Data: "x"}}, {effect(50, 4, 2), "m", api.Reply{Err: api.ErrOver}}, {effect(9999, 7, 3), "m", api.Reply{}}} {
		d, p := filled(t, 30, kept)
		for i := range 500 {
			e := effect(1+r.Intn(60), r.Intn(8), 1+r.Intn(3))
			switch r.Intn(5) {
			case 0:
				expectTake(t, d, p, api.Range{From: "", To: "m"})
			case 1:
				expectTake(t, d, p, api.Range{From: "m0"})
			case 2:
				e = kept.e
			}
			expectPut(t, d, p, e, []string{"a", "l", "m0", "z"}[r.Intn(4)], api.Reply{Num: int64(i)})
			got, is := d.Get(kept.e)
			key, was := d.Key(kept.e)
			if got != kept.r || !is || key != kept.key || !was {
				t.Fatalf("%v: %v, %t, %q, %t", kept.e, got, is, key, was)
			}
		}
		expectSame(t, d, p)
		if l := expectTake(t, d, p, api.Range{From: "m", To: "m0"}); !slices.Equal(l, []api.Effect{kept.e}) {
			t.Errorf("Take: %v", l)
		}
		expectNone(t, d, kept.e)
		if e := expectPut(t, d, p, kept.e, "q", api.Reply{Num: 77}); e != api.OK {
			t.Errorf("Put of what was taken: %d", e)
		}
		expectSame(t, d, p)
	}
}

// P9.1 to P9.8: long courses of calls, with copies of which one goes on; all that is asked agrees at each time.
func TestCourses(t *testing.T) {
	for seed := range int64(40) {
		r := rand.New(rand.NewSource(seed))
		keys := []string{"a", "a0", "b", "b0", "c", "m", "z", "0", "A", ""}
		d, p := empty(t, r.Intn(60))
		for range 400 {
			e := effect(r.Intn(12), r.Intn(9), 1+r.Intn(3))
			switch r.Intn(14) {
			case 0:
				expectTake(t, d, p, api.Range{From: ends[r.Intn(len(ends))], To: ends[r.Intn(len(ends))]})
			case 1:
				key := keys[r.Intn(len(keys))]
				expectTake(t, d, p, api.Range{From: key, To: key + "1"})
			case 2:
				c, q := d.Copy(), p.copy()
				expectPut(t, d, p, e, "d", api.Reply{Num: 1})
				expectTake(t, d, p, api.Range{From: "a", To: "b"})
				expectSame(t, c, q)
				if r.Intn(2) == 0 {
					d, p = c, q
				}
			default:
				reply := api.Reply{Err: api.Errno(r.Intn(20)), Num: r.Int63n(100) - 50, Data: strings.Repeat("d", r.Intn(4))}
				expectPut(t, d, p, e, keys[r.Intn(len(keys))], reply)
			}
			expectSame(t, d, p)
		}
	}
}

// R2: a table that New did not make is not valid, for calls of all kinds and before all other errors.
func TestNotValid(t *testing.T) {
	for _, d := range []*dedup.Done{nil, {}, new(dedup.Done)} {
		for _, e := range append([]api.Effect{effect(1, 0, 1)}, wrongEffects...) {
			for _, key := range []string{"a", "A"} {
				for _, r := range []api.Reply{{}, {Err: 19}} {
					if f := d.Put(e, key, r); f != api.ErrNil {
						t.Errorf("Put(%v, %q, %v): %d", e, key, r, f)
					}
				}
			}
			expectNone(t, d, e)
		}
		for _, r := range []api.Range{{}, {From: "a", To: "c"}, {From: "c", To: "a"}, {From: "A"}} {
			if l, e := d.Take(r); len(l) != 0 || e != api.ErrNil {
				t.Errorf("Take(%+v): %v, %d", r, l, e)
			}
		}
		if l := d.All(); len(l) != 0 || d.Len() != 0 || d.Room() != 0 || d.Copy() != nil {
			t.Errorf("All, Len, Room, Copy: %v, %d, %d, %v", l, d.Len(), d.Room(), d.Copy())
		}
	}
}

// R4: results are new memory.
func TestMemory(t *testing.T) {
	d, p := example(t)
	first, second := d.All(), d.All()
	first[0] = effect(7, 7, 3)
	_ = append(first[:1], effect(8, 7, 3))
	if !slices.Equal(second, sorted(p.l)) {
		t.Errorf("two results share memory: %v", second)
	}
	expectSame(t, d, p)
	c, q := d.Copy(), p.copy()
	taken := expectTake(t, d, p, api.Range{From: "a", To: "c"})
	for i := range taken {
		taken[i] = effect(7, 7, 3)
	}
	_ = append(taken, effect(8, 7, 3))
	expectSame(t, d, p)
	expectSame(t, c, q)
}

// R8: tables in equal states answer equally, whatever led there.
func TestSameAgain(t *testing.T) {
	all := func(d *dedup.Done) string {
		text := fmt.Sprint(d.All(), d.Len(), d.Room())
		for _, e := range append(d.All(), strange...) {
			r, is := d.Get(e)
			key, was := d.Key(e)
			text += fmt.Sprint(r, is, key, was)
		}
		for _, x := range ends {
			l, e := d.Copy().Take(api.Range{From: x, To: "c1"})
			text += fmt.Sprint(l, e)
		}
		return text
	}
	var first string
	for seed := range int64(20) {
		d, p := filled(t, 3, some(70, rand.New(rand.NewSource(seed)))...)
		for _, e := range expectTake(t, d, p, api.Range{From: "b", To: "d"}) {
			expectPut(t, d, p, e, "e", api.Reply{Num: int64(e.Step)})
		}
		if got := all(d); seed == 0 {
			first = got
		} else if got != first {
			t.Errorf("%s, then %s", first, got)
		}
		if got := all(d.Copy()); got != first {
			t.Errorf("%s, but the copy %s", first, got)
		}
	}
}

package store_test

import (
	"fmt"
	"math"
	"math/big"
	"math/rand"
	"regexp"
	"slices"
	"strings"
	"testing"

	"skald/api"
	"skald/count"
	"skald/ranges"
	"skald/store"
)

const most = api.MaxNum

// entry is a key with its counter.
type entry struct {
	key string
	c   api.Count
}

// plain is a store as the chapter defines it: keys with their counters, in the order in which they were put.
type plain []entry

var name = regexp.MustCompile(`^[a-z0-9]{1,16}$`)

func (p plain) find(key string) int {
	return slices.IndexFunc(p, func(x entry) bool { return x.key == key })
}

func (p *plain) put(key string, c api.Count) api.Errno {
	switch {
	case !name.MatchString(key):
		return api.ErrName
	case count.Check(c) != api.OK:
		return api.ErrArg
	case p.find(key) >= 0:
		return api.ErrHave
	case len(*p) == 64:
		return api.ErrFull
	}
	*p = append(*p, entry{key, c})
	return api.OK
}

func (p plain) get(key string) (api.Count, api.Errno) {
	i := p.find(key)
	if i < 0 {
		return api.Count{}, api.ErrNone
	}
	return p[i].c, api.OK
}

func (p plain) apply(key string, phase int, delta int64) (int64, api.Errno) {
	i := p.find(key)
	if i < 0 {
		return 0, api.ErrNone
	}
	c, e := count.Apply(p[i].c, phase, delta)
	if e != api.OK {
		return 0, e
	}
	p[i].c = c
	return c.V, api.OK
}

func (p *plain) remove(key string) api.Errno {
	i := p.find(key)
	if i < 0 {
		return api.ErrNone
	}
	*p = slices.Delete(*p, i, i+1)
	return api.OK
}

func (p plain) keys(has func(key string) bool) []string {
	var l []string
	for _, x := range p {
		if has(x.key) {
			l = append(l, x.key)
		}
	}
	slices.SortFunc(l, strings.Compare)
	return l
}

func (p plain) in(r api.Range) ([]string, api.Errno) {
	isEnd := func(s string) bool { return s == "" || name.MatchString(s) }
	if !isEnd(r.From) || !isEnd(r.To) || r.To != "" && r.To <= r.From {
		return nil, api.ErrArg
	}
	return p.keys(func(key string) bool { return r.From <= key && (r.To == "" || key < r.To) }), api.OK
}

func (p plain) quiet() bool {
	for _, x := range p {
		if x.c.Up != 0 || x.c.Down != 0 {
			return false
		}
	}
	return true
}

func (p plain) sum() (int64, api.Errno) {
	total, limit := big.NewInt(0), big.NewInt(most)
	for _, x := range p {
		total.Add(total, big.NewInt(x.c.V))
	}
	if total.CmpAbs(limit) > 0 {
		return 0, api.ErrOver
	}
	return total.Int64(), api.OK
}

// asked are ranges of all kinds, also ones that are not valid.
var asked = []api.Range{
	{}, {From: "a"}, {From: "b"}, {From: "m"}, {From: "zz"}, {To: "a"}, {To: "m"}, {To: "n"}, {To: "0"}, {From: "a", To: "m"},
	{From: "a", To: "aa"}, {From: "b", To: "c0"}, {From: "7", To: "k3"}, {From: "m", To: "a"}, {From: "m", To: "m"}, {From: "A"}, {To: "é"},
	{From: "a", To: "b c"}, {From: strings.Repeat("a", 16), To: strings.Repeat("b", 16)}, {From: strings.Repeat("a", 17)},
}

// expectSame checks all that can be asked of a store.
func expectSame(t *testing.T, s *store.Store, p plain) {
	t.Helper()
	if got, want := s.Keys(), p.keys(func(string) bool { return true }); !slices.Equal(got, want) {
		t.Fatalf("Keys: %q, want %q", got, want)
	}
	if s.Len() != len(p) || s.Quiet() != p.quiet() {
		t.Fatalf("%d keys, quiet %t; want %d, %t", s.Len(), s.Quiet(), len(p), p.quiet())
	}
	for _, x := range p {
		if c, e := s.Get(x.key); c != x.c || e != api.OK {
			t.Fatalf("Get(%q): %+v, %d; want %+v", x.key, c, e, x.c)
		}
	}
	got, e := s.Sum()
	want, wantE := p.sum()
	if got != want || e != wantE {
		t.Fatalf("Sum: %d, %d; want %d, %d", got, e, want, wantE)
	}
	for _, r := range asked {
		got, e := s.In(r)
		want, wantE := p.in(r)
		if !slices.Equal(got, want) || e != wantE {
			t.Fatalf("In(%+v): %q, %d; want %q, %d", r, got, e, want, wantE)
		}
	}
}

// filled returns a store, and what stands in it.
func filled(t *testing.T, l ...entry) (*store.Store, plain) {
	t.Helper()
	s := store.New()
	var p plain
	for _, x := range l {
		if e := s.Put(x.key, x.c); e != api.OK {
			t.Fatalf("Put(%q, %+v): %d", x.key, x.c, e)
		}
		p = append(p, x)
	}
	expectSame(t, s, p)
	return s, p
}

// example is the store of the chapter's examples.
func example(t *testing.T) (*store.Store, plain) {
	t.Helper()
	return filled(t, entry{"a", api.Count{V: 5, Hi: 10}}, entry{"m", api.Count{Hi: 3}})
}

// expectApply checks what Apply does with the store and with what stands in it.
func expectApply(t *testing.T, s *store.Store, p plain, key string, phase int, delta int64) (int64, api.Errno) {
	t.Helper()
	want, wantE := p.apply(key, phase, delta)
	got, e := s.Apply(key, phase, delta)
	if got != want || e != wantE {
		t.Fatalf("Apply(%q, %d, %d): %d, %d; want %d, %d", key, phase, delta, got, e, want, wantE)
	}
	return got, e
}

// names returns keys of two bytes, n of them, none of which comes just behind the one before.
func names(n int) []string {
	var l []string
	for i := range n {
		l = append(l, string([]byte{byte('a' + i*7%26), byte('0' + i/26)}))
	}
	return l
}

// P8.1 to P8.5: the chapter's examples.
func TestExamples(t *testing.T) {
	s, _ := example(t)
	for i, x := range []struct {
		key   string
		phase int
		delta int64
		want  int64
		e     api.Errno
		quiet bool
	}{
		{"a", api.Forward, 3, 8, api.OK, false},
		{"a", api.Forward, 3, 0, api.ErrOver, false},
		{"a", api.Forward, -6, 0, api.ErrOver, false},
		{"a", api.Undo, 3, 5, api.OK, true},
		{"m", api.Forward, 2, 2, api.OK, false},
		{"m", api.Free, 2, 2, api.OK, true},
		{"x", api.Forward, 1, 0, api.ErrNone, true},
	} {
		if v, e := s.Apply(x.key, x.phase, x.delta); v != x.want || e != x.e || s.Quiet() != x.quiet {
			t.Errorf("%d: Apply is %d, %d, and Quiet %t", i, v, e, s.Quiet())
		}
	}
	if c, e := s.Get("a"); c != (api.Count{V: 5, Hi: 10}) || e != api.OK {
		t.Errorf("Get(a): %+v, %d", c, e)
	}
	if e, f := s.Put("a", api.Count{}), s.Put("A", api.Count{}); e != api.ErrHave || f != api.ErrName {
		t.Errorf("Put: %d, %d", e, f)
	}
	if l := s.Keys(); !slices.Equal(l, []string{"a", "m"}) {
		t.Errorf("Keys: %q", l)
	}
	if l, e := s.In(api.Range{From: "b"}); !slices.Equal(l, []string{"m"}) || e != api.OK {
		t.Errorf("In: %q, %d", l, e)
	}
	if n, e := s.Sum(); n != 7 || e != api.OK {
		t.Errorf("Sum: %d, %d", n, e)
	}
}

// P8.1: New returns a store without keys, and another one each time.
func TestNew(t *testing.T) {
	s, other := store.New(), store.New()
	expectSame(t, s, nil)
	if e := other.Put("a", api.Count{V: 1, Hi: 1}); e != api.OK {
		t.Errorf("Put: %d", e)
	}
	expectSame(t, s, nil)
}

// P8.1, R8: the original and a copy go on alone, whatever is done with one of them.
func TestCopy(t *testing.T) {
	s, p := example(t)
	expectApply(t, s, p, "a", api.Forward, 3)
	c, q := s.Copy(), slices.Clone(p)
	expectSame(t, c, q)
	expectApply(t, c, q, "a", api.Undo, 3)
	expectApply(t, c, q, "m", api.Forward, 1)
	if e, f := c.Put("x", api.Count{V: 1, Hi: 1}), q.put("x", api.Count{V: 1, Hi: 1}); e != f {
		t.Errorf("Put: %d", e)
	}
	expectSame(t, s, p)
	expectSame(t, c, q)
	if e, f := s.Remove("m"), p.remove("m"); e != f {
		t.Errorf("Remove: %d", e)
	}
	expectApply(t, s, p, "a", api.Free, 3)
	expectSame(t, s, p)
	expectSame(t, c, q)
	empty := store.New().Copy()
	expectSame(t, empty, nil)
	if e := empty.Put("a", api.Count{}); e != api.OK {
		t.Errorf("Put in the copy of an empty store: %d", e)
	}
}

// wrongNames are texts that are no names.
var wrongNames = []string{"", "A", "aB", "a b", "a-", "é", "a\x00", "\xff", "a\n", "`", "{", "/", ":", strings.Repeat("a", 17), strings.Repeat("a", 70_000)}

// wrongCounts are counters that are not valid.
var wrongCounts = []api.Count{
	{Lo: 1}, {Hi: -1}, {Up: -1, Hi: 9}, {Down: -1, Lo: -9}, {V: 1, Up: 2, Hi: 9}, {V: 8, Down: 2, Hi: 9}, {V: most + 1, Hi: most + 1},
	{Hi: most + 1}, {Lo: -most - 1}, {V: math.MinInt64, Lo: math.MinInt64}, {Up: math.MaxInt64, Lo: math.MinInt64, Hi: math.MaxInt64},
}

// P8.2, R1: Put names the first error that applies; then nothing changes.
func TestPut(t *testing.T) {
	s, p := example(t)
	for _, key := range wrongNames {
		for _, c := range append([]api.Count{{}}, wrongCounts...) {
			if e := s.Put(key, c); e != api.ErrName {
				t.Errorf("Put(%.20q, %+v): %d", key, c, e)
			}
		}
	}
	for _, key := range []string{"a", "b"} {
		for _, c := range wrongCounts {
			if e := s.Put(key, c); e != api.ErrArg {
				t.Errorf("Put(%q, %+v): %d", key, c, e)
			}
		}
	}
	for _, c := range []api.Count{{}, {V: 5, Hi: 10}, {V: 6, Hi: 10}} {
		if e := s.Put("a", c); e != api.ErrHave {
			t.Errorf("Put(a, %+v): %d", c, e)
		}
	}
	expectSame(t, s, p)
}

// P8.2: what is a name may be a key, and what is valid may be its counter, with reservations too.
func TestPutAll(t *testing.T) {
	s, p := filled(t,
		entry{"0", api.Count{}}, entry{"z", api.Count{V: most, Hi: most}}, entry{"9a", api.Count{V: 3, Up: 2, Down: 1, Lo: 1, Hi: 4}},
		entry{strings.Repeat("z", 16), api.Count{V: -most, Lo: -most}}, entry{"zz", api.Count{Up: most, Down: most, Lo: -most, Hi: most}})
	if e, f := s.Remove("9a"), p.remove("9a"); e != api.OK || f != api.OK {
		t.Errorf("Remove: %d", e)
	}
	expectSame(t, s, p)
}

// P8.2: there is room for MaxKeys keys; the one beyond is ErrFull, behind the other errors.
func TestFull(t *testing.T) {
	var l []entry
	for i, key := range names(api.MaxKeys) {
		l = append(l, entry{key, api.Count{V: int64(i), Hi: 100}})
	}
	s, p := filled(t, l...)
	for _, x := range []struct {
		key string
		c   api.Count
		e   api.Errno
	}{{"x", api.Count{}, api.ErrFull}, {"x", api.Count{Lo: 1}, api.ErrArg}, {"X", api.Count{}, api.ErrName}, {l[9].key, api.Count{}, api.ErrHave}} {
		if e := s.Put(x.key, x.c); e != x.e {
			t.Errorf("Put(%q, %+v) in a full store: %d, want %d", x.key, x.c, e, x.e)
		}
	}
	expectSame(t, s, p)
	c := s.Copy()
	if e := c.Put("x", api.Count{}); e != api.ErrFull {
		t.Errorf("Put in the copy of a full store: %d", e)
	}
	for _, e := range []api.Errno{s.Remove(l[5].key), p.remove(l[5].key), s.Put("x", api.Count{}), p.put("x", api.Count{})} {
		if e != api.OK {
			t.Errorf("a full store of which one key was removed: %d", e)
		}
	}
	expectSame(t, s, p)
	if e := s.Put("y", api.Count{}); e != api.ErrFull {
		t.Errorf("Put in a store that is full again: %d", e)
	}
}

// P8.2: Remove and Get of keys that are not there, or not any more; a key may be put again, with another counter.
func TestRemove(t *testing.T) {
	s, p := example(t)
	for _, key := range append([]string{"b", "aa", "mm"}, wrongNames...) {
		if e := s.Remove(key); e != api.ErrNone {
			t.Errorf("Remove(%.20q): %d", key, e)
		}
		if c, e := s.Get(key); c != (api.Count{}) || e != api.ErrNone {
			t.Errorf("Get(%.20q): %+v, %d", key, c, e)
		}
	}
	expectSame(t, s, p)
	if e, f, g := s.Remove("a"), s.Remove("a"), p.remove("a"); e != api.OK || f != api.ErrNone || g != api.OK {
		t.Errorf("Remove(a): %d, then %d", e, f)
	}
	expectSame(t, s, p)
	if c, e := s.Get("a"); c != (api.Count{}) || e != api.ErrNone {
		t.Errorf("Get(a): %+v, %d", c, e)
	}
	if e, f := s.Put("a", api.Count{V: 1, Hi: 2}), p.put("a", api.Count{V: 1, Hi: 2}); e != api.OK || f != api.OK {
		t.Errorf("Put(a): %d", e)
	}
	expectSame(t, s, p)
}

// P8.3, P8.6: Apply does to one counter what count.Apply does, or nothing, for all phases and deltas.
func TestApply(t *testing.T) {
	deltas := []int64{math.MinInt64, -most - 1, -most, -6, -5, -2, -1, 0, 1, 2, 5, 6, most, most + 1, math.MaxInt64}
	for _, c := range []api.Count{{}, {V: 5, Hi: 10}, {V: 5, Up: 2, Hi: 10}, {V: 5, Up: 2, Down: 5, Lo: -1, Hi: 10}, {V: most, Up: most, Hi: most}, {Up: most, Down: most, Lo: -most, Hi: most}} {
		for phase := -1; phase <= 5; phase++ {
			for _, delta := range deltas {
				s, p := filled(t, entry{"a", api.Count{V: 1, Up: 1, Hi: 9}}, entry{"b", c}, entry{"ba", c})
				expectApply(t, s, p, "b", phase, delta)
				expectSame(t, s, p)
				for _, key := range []string{"", "c", "B"} {
					if _, e := expectApply(t, s, p, key, phase, delta); e != api.ErrNone {
						t.Errorf("Apply(%q, %d, %d): %d", key, phase, delta, e)
					}
				}
				expectSame(t, s, p)
			}
		}
	}
}

// P8.4: the keys' order is that of their bytes, whatever the order in which they were put.
func TestKeys(t *testing.T) {
	want := []string{"0", "00", "09", "10", "9", "a", "a0", "aa", "ab", "b", "z", "z0", "zz", "zzzzzzzzzzzzzzzz"}
	r := rand.New(rand.NewSource(8))
	for range 50 {
		var l []entry
		for _, i := range r.Perm(len(want)) {
			l = append(l, entry{want[i], api.Count{}})
		}
		s, _ := filled(t, l...)
		if got := s.Keys(); !slices.Equal(got, want) {
			t.Fatalf("Keys: %q", got)
		}
	}
}

// P8.4: In has the keys from From on and below To, and no range that is not valid.
func TestIn(t *testing.T) {
	s, p := filled(t, entry{"a", api.Count{}}, entry{"b", api.Count{}}, entry{"c", api.Count{}})
	ends := []string{"", "0", "a", "a0", "b", "b0", "c", "c0", "z", "A", "b c", strings.Repeat("b", 17)}
	for _, from := range ends {
		for _, to := range ends {
			r := api.Range{From: from, To: to}
			got, e := s.In(r)
			want, wantE := p.in(r)
			if !slices.Equal(got, want) || e != wantE {
				t.Errorf("In(%+v): %q, %d; want %q, %d", r, got, e, want, wantE)
			}
			if _, e := store.New().In(r); e != wantE {
				t.Errorf("In(%+v) of an empty store: %d, want %d", r, e, wantE)
			}
		}
	}
}

// P8.5: any reservation of any counter, also one of a few numbers, is not quiet.
func TestQuiet(t *testing.T) {
	for i := range 5 {
		for _, c := range []api.Count{{V: 9, Up: 1, Hi: 9}, {Down: 1, Hi: 9}, {V: 4, Up: 2, Down: 2, Hi: 9}, {V: most, Up: most, Hi: most}} {
			var l []entry
			for k, key := range names(5) {
				if k == i {
					l = append(l, entry{key, c})
				} else {
					l = append(l, entry{key, api.Count{V: 5, Hi: 9}})
				}
			}
			s, p := filled(t, l...)
			if s.Quiet() {
				t.Errorf("a store with %+v is quiet", c)
			}
			if e, f := s.Remove(l[i].key), p.remove(l[i].key); e != api.OK || f != api.OK || !s.Quiet() {
				t.Errorf("a store without %+v is not quiet", c)
			}
		}
	}
}

// P8.5: sums at MaxNum and beyond, on both sides of 0, also ones that do not fit an int64 on the way.
func TestSum(t *testing.T) {
	for i, x := range []struct {
		values []int64
		want   int64
		e      api.Errno
	}{
		{nil, 0, api.OK},
		{[]int64{-3}, -3, api.OK},
		{[]int64{most}, most, api.OK},
		{[]int64{-most}, -most, api.OK},
		{[]int64{most, 1}, 0, api.ErrOver},
		{[]int64{-most, -1}, 0, api.ErrOver},
		{[]int64{most, 1, -1}, most, api.OK},
		{[]int64{-1, -most, 1}, -most, api.OK},
		{[]int64{most / 2, most / 2}, most, api.OK},
		{[]int64{most / 2, most / 2, 1}, 0, api.ErrOver},
		{slices.Repeat([]int64{most}, 8), 0, api.ErrOver},
		{slices.Repeat([]int64{most}, 16), 0, api.ErrOver}, // 2^64, which is 0 for an uint64
		{slices.Repeat([]int64{-most}, 16), 0, api.ErrOver},
		{slices.Repeat([]int64{most}, 64), 0, api.ErrOver},
		{append(slices.Repeat([]int64{most}, 32), slices.Repeat([]int64{-most}, 32)...), 0, api.OK},
		{append(slices.Repeat([]int64{most}, 17), slices.Repeat([]int64{-most}, 16)...), most, api.OK},
	} {
		var l []entry
		for k, key := range names(len(x.values)) {
			l = append(l, entry{key, api.Count{V: x.values[k], Lo: -most, Hi: most}})
		}
		s, _ := filled(t, l...)
		if n, e := s.Sum(); n != x.want || e != x.e {
			t.Errorf("%d: Sum is %d, %d; want %d, %d", i, n, e, x.want, x.e)
		}
	}
}

// R2: a store that New did not make is not valid, for calls of all kinds and before all other errors.
func TestNotValid(t *testing.T) {
	for _, s := range []*store.Store{nil, {}, new(store.Store)} {
		for _, key := range []string{"a", "A", ""} {
			if e := s.Put(key, api.Count{Lo: 1}); e != api.ErrNil {
				t.Errorf("Put: %d", e)
			}
			if e := s.Put(key, api.Count{}); e != api.ErrNil {
				t.Errorf("Put: %d", e)
			}
			if c, e := s.Get(key); c != (api.Count{}) || e != api.ErrNil {
				t.Errorf("Get: %+v, %d", c, e)
			}
			if v, e := s.Apply(key, 1, 1); v != 0 || e != api.ErrNil {
				t.Errorf("Apply: %d, %d", v, e)
			}
			if e := s.Remove(key); e != api.ErrNil {
				t.Errorf("Remove: %d", e)
			}
		}
		for _, r := range asked {
			if l, e := s.In(r); len(l) != 0 || e != api.ErrNil {
				t.Errorf("In: %q, %d", l, e)
			}
		}
		if n, e := s.Sum(); n != 0 || e != api.ErrNil {
			t.Errorf("Sum: %d, %d", n, e)
		}
		if len(s.Keys()) != 0 || s.Len() != 0 || s.Quiet() || s.Copy() != nil {
			t.Errorf("%q, %d, %t, %v", s.Keys(), s.Len(), s.Quiet(), s.Copy())
		}
	}
}

// P8.1 to P8.6: long courses of calls, with copies of which one goes on; all that is asked agrees at each time.
func TestCourses(t *testing.T) {
	for seed := range int64(30) {
		r := rand.New(rand.NewSource(seed))
		keys := append(names(20+int(seed)*3), "A", "")
		s := store.New()
		var p plain
		for range 400 {
			key := keys[r.Intn(len(keys))]
			switch r.Intn(10) {
			case 0, 1, 2:
				c := api.Count{V: r.Int63n(20) - 10, Up: r.Int63n(3) - r.Int63n(2), Down: r.Int63n(2), Lo: -10, Hi: 10}
				if e, f := s.Put(key, c), p.put(key, c); e != f {
					t.Fatalf("Put(%q, %+v): %d, want %d", key, c, e, f)
				}
			case 3:
				if e, f := s.Remove(key), p.remove(key); e != f {
					t.Fatalf("Remove(%q): %d, want %d", key, e, f)
				}
			case 4:
				old, q := s, slices.Clone(p)
				s = s.Copy()
				s.Put("other", api.Count{})
				s.Remove(key)
				expectSame(t, old, p)
				s, p = old, q
			default:
				expectApply(t, s, p, key, r.Intn(5), r.Int63n(13)-6)
			}
			expectSame(t, s, p)
		}
	}
}

// P8.7: Undo makes the counter what it was before Forward, Free gives just the reservation back, and no other
// counter changes.
func TestUndoAndFree(t *testing.T) {
	r := rand.New(rand.NewSource(7))
	s, p := filled(t, entry{"a", api.Count{V: 5, Hi: 10}}, entry{"b", api.Count{V: -5, Up: 1, Lo: -10}}, entry{"c", api.Count{Down: 3, Lo: -most, Hi: most}})
	done := 0
	for range 2000 {
		key := p[r.Intn(len(p))].key
		delta := r.Int63n(21) - 10
		before := slices.Clone(p)
		old, _ := s.Get(key)
		v, e := s.Apply(key, api.Forward, delta)
		if e != api.OK {
			expectSame(t, s, before)
			continue
		}
		done++
		if v != old.V+delta {
			t.Fatalf("%+v with %d has the value %d", old, delta, v)
		}
		freed := s.Copy()
		if v, e := s.Apply(key, api.Undo, delta); v != old.V || e != api.OK {
			t.Fatalf("Undo of %d: %d, %d; the value was %d", delta, v, e, old.V)
		}
		expectSame(t, s, before)
		if w, e := freed.Apply(key, api.Free, delta); w != v || e != api.OK {
			t.Fatalf("Free of %d: %d, %d; the value was %d", delta, w, e, v)
		}
		p[p.find(key)].c.V += delta
		expectSame(t, freed, p)
		if r.Intn(3) == 0 {
			s = freed
		} else {
			p = before
		}
	}
	if done < 500 {
		t.Errorf("only %d deltas were accepted", done)
	}
}

// parts returns ranges that do not meet and have all keys together, cut at some names.
func parts(cuts []string) []api.Range {
	cuts = slices.Compact(slices.Sorted(slices.Values(cuts)))
	from := ""
	var l []api.Range
	for _, to := range cuts {
		l = append(l, api.Range{From: from, To: to})
		from = to
	}
	return append(l, api.Range{From: from})
}

// P8.8: the keys of ranges that do not meet, and have all keys together, are all keys.
func TestParts(t *testing.T) {
	r := rand.New(rand.NewSource(88))
	for n := range 200 {
		var l []entry
		for _, key := range names(n % 65) {
			l = append(l, entry{key, api.Count{}})
		}
		s, _ := filled(t, l...)
		var cuts []string
		for range r.Intn(9) {
			cuts = append(cuts, names(64)[r.Intn(64)][:1+r.Intn(2)])
		}
		all := parts(cuts)
		if is, e := ranges.Cover(all); !is || e != api.OK {
			t.Fatalf("%+v do not cover: %d", all, e)
		}
		var together []string
		for _, x := range all {
			keys, e := s.In(x)
			if e != api.OK {
				t.Fatalf("In(%+v): %d", x, e)
			}
			together = append(together, keys...)
		}
		if !slices.Equal(together, s.Keys()) {
			t.Errorf("In of %+v: %q; Keys: %q", all, together, s.Keys())
		}
	}
}

// R4: results are new memory.
func TestMemory(t *testing.T) {
	s, p := example(t)
	for _, list := range []func() []string{s.Keys, func() []string { l, _ := s.In(api.Range{}); return l }} {
		first, second := list(), list()
		first[0] = "z"
		_ = append(first[:1], "y")
		if !slices.Equal(second, []string{"a", "m"}) {
			t.Errorf("two results share memory: %q", second)
		}
		expectSame(t, s, p)
	}
}

// R8: stores in equal states answer equally, whatever led there.
func TestSameAgain(t *testing.T) {
	all := func(s *store.Store) string {
		text := fmt.Sprint(s.Keys(), s.Len(), s.Quiet())
		for _, r := range asked {
			l, e := s.In(r)
			text += fmt.Sprint(l, e)
		}
		n, e := s.Sum()
		text += fmt.Sprint(n, e)
		for _, key := range []string{"a", "b", "A"} {
			c, e := s.Get(key)
			text += fmt.Sprint(c, e)
		}
		return text
	}
	var first string
	for i := range 20 {
		s := store.New()
		keys := append([]string{"other"}, names(30)...)
		rand.New(rand.NewSource(int64(i))).Shuffle(len(keys), func(a, b int) { keys[a], keys[b] = keys[b], keys[a] })
		for _, key := range keys {
			s.Put(key, api.Count{V: int64(len(key)), Up: 1, Lo: -1, Hi: 9})
		}
		s.Remove("other")
		if got := all(s); i == 0 {
			first = got
		} else if got != first {
			t.Errorf("%s, then %s", first, got)
		}
		if got := all(s.Copy()); got != first {
			t.Errorf("%s, but the copy %s", first, got)
		}
	}
}

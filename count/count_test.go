package count_test

import (
	"cmp"
	"fmt"
	"math"
	"math/rand"
	"slices"
	"testing"

	"skald/api"
	"skald/count"
)

const (
	most   = api.MaxNum
	lowest = math.MinInt64
	top    = math.MaxInt64
)

// change is a function that changes a counter.
type change = func(c api.Count, delta int64) (api.Count, api.Errno)

// changes returns the functions that change counters, by their phases.
func changes() map[int]change {
	return map[int]change{api.Forward: count.Do, api.Undo: count.Undo, api.Free: count.Free}
}

// edges are numbers around 0, the limit, half of it, and the ends of int64.
var edges = []int64{lowest, lowest + 1, -most - 1, -most, 1 - most, -most / 2, -1, 0, 1, most / 2, most - 1, most, most + 1, top}

// allowed reports whether all numbers are from -MaxNum to MaxNum. Sums of three such numbers fit an int64, so that
// what the tests expect is computed as the chapter writes it.
func allowed(l ...int64) bool {
	return slices.Min(l) >= -1<<60 && slices.Max(l) <= 1<<60
}

// valid reports whether a counter is valid as the chapter defines it.
func valid(c api.Count) bool {
	return allowed(c.V, c.Up, c.Down, c.Lo, c.Hi) && c.Up >= 0 && c.Down >= 0 && c.Lo <= c.V-c.Up && c.V+c.Down <= c.Hi
}

// wanted returns what a phase has to lead to, as the chapter says for both signs.
func wanted(c api.Count, phase int, delta int64) (api.Count, api.Errno) {
	if !valid(c) || !allowed(delta) || phase < 1 || phase > 3 {
		return api.Count{}, api.ErrArg
	}
	size := max(delta, -delta)
	switch {
	case phase == 1 && delta >= 0 && (c.V+c.Down+delta > c.Hi || c.Up+delta > most):
		return api.Count{}, api.ErrOver
	case phase == 1 && delta < 0 && (c.V-c.Up-size < c.Lo || c.Down+size > most):
		return api.Count{}, api.ErrOver
	case phase != 1 && delta >= 0 && c.Up < delta, phase != 1 && delta < 0 && c.Down < size:
		return api.Count{}, api.ErrState
	case phase == 1 && delta >= 0:
		return api.Count{V: c.V + delta, Up: c.Up + delta, Down: c.Down, Lo: c.Lo, Hi: c.Hi}, api.OK
	case phase == 1:
		return api.Count{V: c.V + delta, Up: c.Up, Down: c.Down + size, Lo: c.Lo, Hi: c.Hi}, api.OK
	case phase == 2 && delta >= 0:
		return api.Count{V: c.V - delta, Up: c.Up - delta, Down: c.Down, Lo: c.Lo, Hi: c.Hi}, api.OK
	case phase == 2:
		return api.Count{V: c.V - delta, Up: c.Up, Down: c.Down - size, Lo: c.Lo, Hi: c.Hi}, api.OK
	case delta >= 0:
		return api.Count{V: c.V, Up: c.Up - delta, Down: c.Down, Lo: c.Lo, Hi: c.Hi}, api.OK
	}
	return api.Count{V: c.V, Up: c.Up, Down: c.Down - size, Lo: c.Lo, Hi: c.Hi}, api.OK
}

// expectChanges checks what all phases do with a counter and a delta.
func expectChanges(t *testing.T, c api.Count, delta int64) {
	t.Helper()
	for phase, f := range changes() {
		want, wantE := wanted(c, phase, delta)
		got, e := f(c, delta)
		if got != want || e != wantE {
			t.Errorf("phase %d of %+v with %d: %+v, %d; want %+v, %d", phase, c, delta, got, e, want, wantE)
		}
		if e == api.OK && !valid(got) {
			t.Errorf("phase %d of %+v with %d: %+v is not valid", phase, c, delta, got)
		}
		if again, f := count.Apply(c, phase, delta); again != want || f != wantE {
			t.Errorf("Apply(%+v, %d, %d): %+v, %d; want %+v, %d", c, phase, delta, again, f, want, wantE)
		}
	}
}

// expectQuestions checks what all functions say about a counter.
func expectQuestions(t *testing.T, c api.Count) {
	t.Helper()
	want, quiet, low, high := api.ErrArg, false, int64(0), int64(0)
	if valid(c) {
		want, quiet, low, high = api.OK, c.Up == 0 && c.Down == 0, c.V-c.Up, c.V+c.Down
	}
	if e := count.Check(c); e != want {
		t.Errorf("Check(%+v): %d, want %d", c, e, want)
	}
	if is, e := count.Quiet(c); is != quiet || e != want {
		t.Errorf("Quiet(%+v): %t, %d; want %t, %d", c, is, e, quiet, want)
	}
	if a, b, e := count.Least(c); a != low || b != high || e != want {
		t.Errorf("Least(%+v): %d, %d, %d; want %d, %d, %d", c, a, b, e, low, high, want)
	}
	up, down, e := count.Room(c)
	if e != want || e != api.OK && (up != 0 || down != 0) {
		t.Errorf("Room(%+v): %d, %d, %d; want %d", c, up, down, e, want)
	}
	if e == api.OK {
		expectRoom(t, c, up, 1)
		expectRoom(t, c, down, -1)
	}
}

// expectRoom checks that Do accepts a size with a sign, and no greater one.
func expectRoom(t *testing.T, c api.Count, size, sign int64) {
	t.Helper()
	if size < 0 || size > most {
		t.Errorf("Room(%+v) has the size %d", c, size)
		return
	}
	if _, e := count.Do(c, sign*size); e != api.OK {
		t.Errorf("Room(%+v) has the size %d, but Do of %d is %d", c, size, sign*size, e)
	}
	if _, e := count.Do(c, sign*(size+1)); e == api.OK {
		t.Errorf("Room(%+v) has the size %d, but Do accepts %d", c, size, sign*(size+1))
	}
}

// eachCount calls f with each counter of which V, Lo and Hi are of values, and Up and Down are of reserved.
func eachCount(values, reserved []int64, f func(c api.Count)) {
	for _, v := range values {
		for _, lo := range values {
			for _, hi := range values {
				for _, up := range reserved {
					for _, down := range reserved {
						f(api.Count{V: v, Up: up, Down: down, Lo: lo, Hi: hi})
					}
				}
			}
		}
	}
}

// numbers returns the numbers from low to high.
func numbers(low, high int64) []int64 {
	var l []int64
	for n := low; n <= high; n++ {
		l = append(l, n)
	}
	return l
}

// someCount returns a valid counter, with numbers of any size up to the limit.
func someCount(r *rand.Rand) api.Count {
	some := func() int64 { return int64(r.Uint64()) % (most + 1) >> r.Intn(61) }
	ends := []int64{some(), some(), some(), some(), some()}
	slices.Sort(ends)
	c := api.Count{Lo: ends[0], V: ends[2], Hi: ends[4]}
	c.Up, c.Down = min(c.V-ends[1], most), min(ends[3]-c.V, most)
	return c
}

// P7.1 to P7.7: the examples.
func TestExamples(t *testing.T) {
	c, e := count.New(5, 0, 10)
	if c != (api.Count{V: 5, Lo: 0, Hi: 10}) || e != api.OK {
		t.Fatalf("New(5, 0, 10): %+v, %d", c, e)
	}
	d := api.Count{V: 8, Up: 3, Lo: 0, Hi: 10}
	for k, x := range []struct {
		from  api.Count
		phase int
		delta int64
		want  api.Count
		e     api.Errno
	}{
		{c, api.Forward, 3, d, api.OK},
		{d, api.Forward, 3, api.Count{}, api.ErrOver},
		{d, api.Forward, 2, api.Count{V: 10, Up: 5, Hi: 10}, api.OK},
		{d, api.Forward, -6, api.Count{}, api.ErrOver},
		{d, api.Forward, -5, api.Count{V: 3, Up: 3, Down: 5, Hi: 10}, api.OK},
		{d, api.Undo, 3, c, api.OK},
		{d, api.Undo, 4, api.Count{}, api.ErrState},
		{d, api.Undo, -1, api.Count{}, api.ErrState},
		{d, api.Free, 3, api.Count{V: 8, Hi: 10}, api.OK},
		{d, api.Free, 2, api.Count{V: 8, Up: 1, Hi: 10}, api.OK},
	} {
		if got, e := changes()[x.phase](x.from, x.delta); got != x.want || e != x.e {
			t.Errorf("%d: %+v, %d; want %+v, %d", k, got, e, x.want, x.e)
		}
		if got, e := count.Apply(x.from, x.phase, x.delta); got != x.want || e != x.e {
			t.Errorf("%d: Apply: %+v, %d; want %+v, %d", k, got, e, x.want, x.e)
		}
	}
	if up, down, e := count.Room(d); up != 2 || down != 5 || e != api.OK {
		t.Errorf("Room: %d, %d, %d", up, down, e)
	}
	if low, high, e := count.Least(d); low != 5 || high != 8 || e != api.OK {
		t.Errorf("Least: %d, %d, %d", low, high, e)
	}
	if got, e := count.Apply(c, 4, 1); got != (api.Count{}) || e != api.ErrArg {
		t.Errorf("Apply of phase 4: %+v, %d", got, e)
	}
}

// P7.1: New with all edges, in and out of order.
func TestNew(t *testing.T) {
	l := append(numbers(-3, 3), edges...)
	for _, v := range l {
		for _, lo := range l {
			for _, hi := range l {
				want, wantE := api.Count{}, api.ErrArg
				if allowed(v, lo, hi) && lo <= v && v <= hi {
					want, wantE = api.Count{V: v, Lo: lo, Hi: hi}, api.OK
				}
				if c, e := count.New(v, lo, hi); c != want || e != wantE {
					t.Errorf("New(%d, %d, %d): %+v, %d; want %+v, %d", v, lo, hi, c, e, want, wantE)
				}
			}
		}
	}
}

// P7.1: what makes a counter wrong, one thing at a time.
func TestWrongCounters(t *testing.T) {
	good := api.Count{V: 5, Up: 2, Down: 3, Lo: 3, Hi: 8}
	expectQuestions(t, good)
	if count.Check(good) != api.OK {
		t.Errorf("Check(%+v) fails", good)
	}
	for k, wrong := range []api.Count{
		{V: 5, Up: 2, Down: 3, Lo: 4, Hi: 8},
		{V: 5, Up: 2, Down: 3, Lo: 3, Hi: 7},
		{V: 5, Up: 3, Down: 3, Lo: 3, Hi: 8},
		{V: 5, Up: 2, Down: 4, Lo: 3, Hi: 8},
		{V: 4, Up: 2, Down: 3, Lo: 3, Hi: 8},
		{V: 6, Up: 2, Down: 3, Lo: 3, Hi: 8},
		{V: 5, Up: -1, Down: 3, Lo: 3, Hi: 8},
		{V: 5, Up: 2, Down: -1, Lo: 3, Hi: 8},
		{V: 5, Lo: 8, Hi: 3},
		{V: most + 1, Hi: most + 1},
		{V: -most - 1, Lo: -most - 1},
		{V: most, Up: most + 1, Lo: -most, Hi: most},
		{V: -most, Down: most + 1, Lo: -most, Hi: most},
		{V: 0, Lo: -most - 1, Hi: 0},
		{V: 0, Lo: 0, Hi: most + 1},
		{V: 0, Up: lowest, Lo: 0, Hi: 0},
		{V: 0, Up: top, Lo: lowest, Hi: top},
		{V: lowest, Up: 1, Lo: -most, Hi: most},
		{V: top, Down: 1, Lo: -most, Hi: most},
		{V: 1, Up: lowest, Down: lowest, Lo: -most, Hi: most},
	} {
		if e := count.Check(wrong); e != api.ErrArg {
			t.Errorf("%d: Check(%+v): %d, want ErrArg", k, wrong, e)
		}
		expectQuestions(t, wrong)
		for _, delta := range append(edges, -2, 2) {
			expectChanges(t, wrong, delta)
		}
	}
}

// P7.1 to P7.8: all counters and deltas with small numbers.
func TestSmallCounters(t *testing.T) {
	valids := 0
	eachCount(numbers(-3, 3), numbers(-1, 4), func(c api.Count) {
		expectQuestions(t, c)
		if valid(c) {
			valids++
		}
		for delta := int64(-8); delta <= 8; delta++ {
			expectChanges(t, c, delta)
		}
	})
	if valids < 200 {
		t.Errorf("only %d counters are valid", valids)
	}
}

// P7.1 to P7.8: counters and deltas at the limits and beyond.
func TestLargeCounters(t *testing.T) {
	values := []int64{-most - 1, -most, 1 - most, -1, 0, 1, most - 1, most, most + 1}
	eachCount(values, append([]int64{lowest, most / 2, top}, values[2:]...), func(c api.Count) {
		expectQuestions(t, c)
		if !valid(c) {
			expectChanges(t, c, 0)
			return
		}
		for _, delta := range edges {
			expectChanges(t, c, delta)
		}
	})
}

// P7.2 to P7.6, P7.8: any counters, with deltas around what they have room for, and what they have reserved.
func TestAnyCounters(t *testing.T) {
	r := rand.New(rand.NewSource(7))
	for range 20_000 {
		c := someCount(r)
		if !valid(c) {
			t.Fatalf("%+v is not valid", c)
		}
		expectQuestions(t, c)
		for _, size := range []int64{0, c.Up, c.Down, c.Hi - c.V - c.Down, c.V - c.Up - c.Lo, most - c.Up, most - c.Down, int64(r.Uint64())} {
			for d := int64(-1); d <= 1; d++ {
				expectChanges(t, c, size+d)
				expectChanges(t, c, -size+d)
			}
		}
	}
}

// P7.2, P7.6: more than MaxNum is never reserved, although the bounds leave room for it.
func TestReservedLimit(t *testing.T) {
	wide := api.Count{V: 0, Up: most, Lo: -most, Hi: most}
	if got, e := count.Do(wide, 1); got != (api.Count{}) || e != api.ErrOver {
		t.Errorf("Do: %+v, %d; want ErrOver", got, e)
	}
	if up, down, e := count.Room(wide); up != 0 || down != 0 || e != api.OK {
		t.Errorf("Room: %d, %d, %d; want no room", up, down, e)
	}
	deep := api.Count{V: 0, Down: most, Lo: -most, Hi: most}
	if got, e := count.Do(deep, -1); got != (api.Count{}) || e != api.ErrOver {
		t.Errorf("Do: %+v, %d; want ErrOver", got, e)
	}
	if up, down, e := count.Room(api.Count{V: -most, Lo: -most, Hi: most}); up != most || down != 0 || e != api.OK {
		t.Errorf("Room: %d, %d, %d; want MaxNum, 0", up, down, e)
	}
	if up, down, e := count.Room(api.Count{V: -most, Up: 0, Down: 5, Lo: -most, Hi: most}); up != most || down != 0 || e != api.OK {
		t.Errorf("Room: %d, %d, %d; want MaxNum, 0", up, down, e)
	}
	if up, down, e := count.Room(api.Count{V: 1, Up: most, Lo: 1 - most, Hi: most}); up != 0 || down != 0 || e != api.OK {
		t.Errorf("Room: %d, %d, %d; want no room", up, down, e)
	}
}

// P7.5: phases that there are not.
func TestPhases(t *testing.T) {
	counters := []api.Count{{}, {V: 5, Up: 1, Down: 1, Hi: 10}, {V: -1}}
	for _, phase := range []int{0, -1, 4, 5, 127, 128, 255, 256, 257, 259, 1<<16 + 1, 1<<32 + 1, 1<<32 + 3, math.MaxInt, math.MinInt, math.MinInt + 1, math.MinInt + 3} {
		for _, c := range counters {
			for _, delta := range append(edges, 5) {
				if got, e := count.Apply(c, phase, delta); got != (api.Count{}) || e != api.ErrArg {
					t.Errorf("Apply(%+v, %d, %d): %+v, %d; want ErrArg", c, phase, delta, got, e)
				}
			}
		}
	}
}

// done is a delta that was accepted, and what became of it.
type done struct {
	delta         int64
	freed, undone bool
}

// settled returns the counter that deltas lead to from c, as P7.9 says.
func settled(c api.Count, l []done) api.Count {
	for _, d := range l {
		if !d.undone {
			c.V += d.delta
		}
		if !d.undone && !d.freed {
			c.Up += max(d.delta, 0)
			c.Down += max(-d.delta, 0)
		}
	}
	return c
}

// someDelta returns a delta, mostly of a size for which there may be room.
func someDelta(r *rand.Rand, c api.Count) int64 {
	width := c.Hi - c.Lo + 1
	d := r.Int63n(2*min(width, most)+1) - min(width, most)
	return d / int64(1+r.Intn(8))
}

// course is a counter, the one it began with, the deltas that led to it, and which of these are open, that is,
// neither undone nor freed.
type course struct {
	first, c api.Count
	accepted []done
	open     []int
}

// try does a delta if it is accepted.
func (k *course) try(delta int64) {
	after, e := count.Do(k.c, delta)
	if e == api.OK {
		k.c, k.open, k.accepted = after, append(k.open, len(k.accepted)), append(k.accepted, done{delta: delta})
	}
}

// finish undoes or frees an open delta, which has to be accepted.
func (k *course) finish(t *testing.T, i int, undo bool) {
	t.Helper()
	d, f := &k.accepted[k.open[i]], count.Free
	if undo {
		f = count.Undo
	}
	after, e := f(k.c, d.delta)
	if e != api.OK {
		t.Fatalf("%+v: the delta %d was accepted, but undo %t is %d", k.c, d.delta, undo, e)
	}
	d.undone, d.freed = undo, !undo
	k.c, k.open = after, slices.Delete(k.open, i, i+1)
}

// expect checks that the counter is valid, and the one that P7.9 names.
func (k *course) expect(t *testing.T) {
	t.Helper()
	if want := settled(k.first, k.accepted); k.c != want || !valid(k.c) {
		t.Fatalf("%+v: %+v with %+v; want %+v", k.first, k.c, k.accepted, want)
	}
}

// P7.8, P7.9, P7.10: long courses of deltas, of which some are undone and some are freed, in any order.
func TestCourses(t *testing.T) {
	r := rand.New(rand.NewSource(77))
	for range 2_000 {
		first := api.Count{V: 5, Lo: 5 - int64(r.Intn(20)), Hi: 5 + int64(r.Intn(20))}
		if r.Intn(2) == 0 {
			first = someCount(r)
			first.Up, first.Down = 0, 0
		}
		k := course{first: first, c: first}
		for range 60 {
			if n := len(k.open); n > 0 && r.Intn(3) == 0 {
				k.finish(t, r.Intn(n), r.Intn(2) == 0)
			} else {
				k.try(someDelta(r, first))
			}
			k.expect(t)
		}
		for len(k.open) > 0 {
			k.finish(t, r.Intn(len(k.open)), true)
			k.expect(t)
		}
		if is, e := count.Quiet(k.c); !is || e != api.OK {
			t.Fatalf("%+v is not quiet: %t, %d", k.c, is, e)
		}
	}
}

// P7.9: Undo directly behind a Do leads back, and Free behind it leaves the value.
func TestUndone(t *testing.T) {
	eachCount(numbers(-3, 3), numbers(0, 4), func(c api.Count) {
		for delta := int64(-7); delta <= 7; delta++ {
			after, e := count.Do(c, delta)
			if e != api.OK {
				continue
			}
			if back, e := count.Undo(after, delta); back != c || e != api.OK {
				t.Errorf("%+v: Do and Undo of %d: %+v, %d", c, delta, back, e)
			}
			freed, e := count.Free(after, delta)
			want := c
			want.V += delta
			if freed != want || e != api.OK {
				t.Errorf("%+v: Do and Free of %d: %+v, %d; want %+v", c, delta, freed, e, want)
			}
		}
	})
}

// orders returns all orders of a list.
func orders(l []int64) [][]int64 {
	if len(l) == 0 {
		return [][]int64{nil}
	}
	var all [][]int64
	for i, first := range l {
		for _, rest := range orders(slices.Delete(slices.Clone(l), i, i+1)) {
			all = append(all, append([]int64{first}, rest...))
		}
	}
	return all
}

// allDone does deltas in their order, and reports whether all were accepted.
func allDone(c api.Count, l []int64) (api.Count, bool) {
	for _, delta := range l {
		var e api.Errno
		if c, e = count.Do(c, delta); e != api.OK {
			return c, false
		}
	}
	return c, true
}

// P7.9: deltas lead to the same counter in each order in which all are accepted.
func TestOrders(t *testing.T) {
	r := rand.New(rand.NewSource(79))
	many := 0
	for range 2_000 {
		first := api.Count{V: int64(r.Intn(9) - 4), Lo: -4 - int64(r.Intn(9)), Hi: 4 + int64(r.Intn(9))}
		l := make([]int64, r.Intn(5))
		for i := range l {
			l[i] = int64(r.Intn(11) - 5)
		}
		want := first
		for _, delta := range l {
			want = settled(want, []done{{delta: delta}})
		}
		accepted := 0
		for _, order := range orders(l) {
			c, ok := allDone(first, order)
			if !ok {
				continue
			}
			accepted++
			if c != want {
				t.Errorf("%+v: %v leads to %+v, want %+v", first, order, c, want)
			}
		}
		if accepted > 1 {
			many++
		}
	}
	if many < 500 {
		t.Errorf("only %d lists were accepted in more than one order", many)
	}
}

// P7.11: what is accepted is accepted still if others are freed, and if its size is smaller.
func TestRefusals(t *testing.T) {
	accepts := func(c api.Count, delta int64) bool {
		_, e := count.Do(c, delta)
		return e == api.OK
	}
	eachCount(numbers(-3, 3), numbers(0, 3), func(c api.Count) {
		for delta := int64(-7); delta <= 7; delta++ {
			if !accepts(c, delta) {
				continue
			}
			if smaller := delta - int64(cmp.Compare(delta, 0)); !accepts(c, smaller) {
				t.Errorf("%+v: %d is accepted, %d is not", c, delta, smaller)
			}
			for other := int64(-3); other <= 3; other++ {
				if freed, e := count.Free(c, other); e == api.OK && !accepts(freed, delta) {
					t.Errorf("%+v: %d is not accepted any more when %d is freed", c, delta, other)
				}
			}
		}
	})
}

// R8: equal calls return equal results.
func TestSameAgain(t *testing.T) {
	all := func(c api.Count, delta int64) string {
		s := fmt.Sprint(count.Check(c))
		a, e := count.New(c.V, c.Lo, c.Hi)
		s += fmt.Sprint(a, e)
		for phase := range 5 {
			a, e := count.Apply(c, phase, delta)
			s += fmt.Sprint(a, e)
		}
		up, down, e := count.Room(c)
		is, f := count.Quiet(c)
		low, high, g := count.Least(c)
		return s + fmt.Sprint(up, down, e, is, f, low, high, g)
	}
	c, wrong := api.Count{V: 5, Up: 2, Down: 1, Lo: 1, Hi: 9}, api.Count{V: 5, Up: -1, Hi: 9}
	first, second := all(c, 2), all(wrong, 2)
	for _, delta := range edges {
		all(c, delta)
		all(wrong, delta)
	}
	if again := all(c, 2); again != first {
		t.Errorf("%s, then %s", first, again)
	}
	if again := all(wrong, 2); again != second {
		t.Errorf("%s, then %s", second, again)
	}
}

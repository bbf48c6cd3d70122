package quorum_test

import (
	"fmt"
	"math"
	"math/rand"
	"slices"
	"testing"

	"skald/api"
	"skald/quorum"
)

const mostNodes = 7

// Numbers in and around what is allowed, and far away.
var (
	counts = []int{math.MinInt, math.MinInt + 1, -1 << 32, -1<<32 + 3, -64, -7, -3, -2, -1, 0, 1, 2, 3, 4, 5, 6, 7, 8, 9, 10, 31, 32, 33, 63, 64, 65, 67, 128, 255, 256, 259, 1 << 31, 1 << 32, 1<<32 + 1, 1<<32 + 3, 1<<32 + 7, 1 << 62, math.MaxInt - 1, math.MaxInt}
	nodes  = []int{math.MinInt, math.MinInt + 1, -1 << 32, -1<<32 + 1, -64, -63, -8, -2, -1, 0, 1, 2, 3, 4, 5, 6, 7, 8, 9, 31, 32, 33, 62, 63, 64, 65, 66, 256, 257, 1 << 31, 1 << 32, 1<<32 + 1, math.MaxInt - 1, math.MaxInt}
)

// isCount reports whether n is a number of nodes as the chapter defines it.
func isCount(n int) bool { return n >= 1 && n <= 7 }

// setOf returns the set with some nodes.
func setOf(l ...int) uint64 {
	var set uint64
	for _, node := range l {
		set |= uint64(1) << node
	}
	return set
}

// has reports whether a set has a node.
func has(set uint64, node int) bool { return set>>node%2 == 1 }

// nodesOf returns the nodes of any set, in order, and how many they are.
func nodesOf(set uint64) ([]int, int) {
	var l []int
	for node := 0; node < 64; node++ {
		if has(set, node) {
			l = append(l, node)
		}
	}
	return l, len(l)
}

// isSet reports whether a set has only nodes of the group.
func isSet(set uint64, n int) bool {
	l, _ := nodesOf(set)
	return !slices.ContainsFunc(l, func(node int) bool { return node >= n })
}

// isMajority reports whether a set has more than half of n nodes.
func isMajority(set uint64, n int) bool {
	_, k := nodesOf(set)
	return k > n-k
}

// others returns the nodes of a group that a set doesn't have.
func others(set uint64, n int) uint64 {
	var rest uint64
	for node := range n {
		if !has(set, node) {
			rest |= setOf(node)
		}
	}
	return rest
}

// setsOf returns all sets of nodes of a group, the ones with the greatest node behind those without it.
func setsOf(n int) []uint64 {
	if n == 0 {
		return []uint64{0}
	}
	without := setsOf(n - 1)
	l := slices.Clone(without)
	for _, set := range without {
		l = append(l, set|setOf(n-1))
	}
	return l
}

// manySets returns all sets of up to nine nodes from 0 on, and those that have one, some or all of the nodes up to 63,
// also besides nodes of a group.
func manySets() []uint64 {
	l := setsOf(9)
	for node := range 64 {
		all := others(0, node+1)
		l = append(l, setOf(node), setOf(0, node), setOf(0, 1, 2, node), setOf(6, node), setOf(node, 63), all, ^all, ^setOf(node))
	}
	return append(l, math.MaxUint64, math.MaxUint64-1, math.MaxUint64/3, math.MaxUint64/3*2)
}

// expectError checks that a call returned the error that it has to.
func expectError(t *testing.T, got api.Errno, good bool, call string, args ...any) {
	t.Helper()
	want := api.ErrArg
	if good {
		want = api.OK
	}
	if got != want {
		t.Errorf("%s%v: %d, want %d", call, args, got, want)
	}
}

// P11.1 to P11.5: the chapter's table of examples.
func TestExamples(t *testing.T) {
	size := func(n int) string { return fmt.Sprint(quorum.Size(n)) }
	is := func(set uint64, n int) string { return fmt.Sprint(quorum.Is(set, n)) }
	with := func(set uint64, node, n int) string { return fmt.Sprint(quorum.With(set, node, n)) }
	meet := func(a, b uint64, n int) string { return fmt.Sprint(quorum.Meet(a, b, n)) }
	all := func(n int) string { return fmt.Sprint(quorum.All(n)) }
	survives := func(down uint64, n int) string { return fmt.Sprint(quorum.Survives(down, n)) }
	for k, x := range []struct{ got, want string }{
		{size(1), "1 0"}, {size(2), "2 0"}, {size(3), "2 0"}, {size(4), "3 0"}, {size(5), "3 0"}, {size(7), "4 0"},
		{is(3, 3), "true 0"}, {is(3, 4), "false 0"}, {is(1, 2), "false 0"},
		{is(8, 3), "false 2"}, {is(1, 0), "false 2"}, {is(1, 8), "false 2"},
		{with(1, 2, 3), "5 0"}, {with(1, 3, 3), "0 2"},
		{meet(3, 6, 3), "1 true 0"}, {meet(1, 6, 3), "0 false 0"},
		{all(3), "[3 5 6] 0"}, {all(2), "[3] 0"},
		{fmt.Sprint(quorum.Count(1<<64 - 1)), "64"}, {fmt.Sprint(quorum.Nodes(9)), "[0 3]"},
		{survives(4, 3), "true 0"}, {survives(6, 3), "false 0"},
	} {
		if x.got != x.want {
			t.Errorf("example %d: %s, want %s", k, x.got, x.want)
		}
	}
}

// P11.1: the sizes of the groups of 1 to 7 nodes; other numbers of nodes on both sides are no groups.
func TestSize(t *testing.T) {
	sizes := map[int]int{1: 1, 2: 2, 3: 2, 4: 3, 5: 3, 6: 4, 7: 4}
	for _, n := range counts {
		size, e := quorum.Size(n)
		if size != sizes[n] {
			t.Errorf("Size(%d): %d, want %d", n, size, sizes[n])
		}
		expectError(t, e, isCount(n), "Size", n)
	}
}

// P11.1: all majorities with the fewest nodes, as increasing numbers; none if there is no such group.
func TestAll(t *testing.T) {
	for _, n := range counts {
		var want []uint64
		if isCount(n) {
			fewest := n
			for _, set := range setsOf(n) {
				if _, k := nodesOf(set); isMajority(set, n) {
					fewest = min(fewest, k)
				}
			}
			for _, set := range setsOf(n) {
				if _, k := nodesOf(set); isMajority(set, n) && k == fewest {
					want = append(want, set)
				}
			}
		}
		l, e := quorum.All(n)
		if !slices.Equal(l, want) || !slices.IsSorted(l) {
			t.Errorf("All(%d): %v, want %v", n, l, want)
		}
		expectError(t, e, isCount(n), "All", n)
	}
}

// P11.1: how many there are, and the first and the last one.
func TestAllCounts(t *testing.T) {
	for n, x := range []struct {
		many        int
		first, last uint64
	}{1: {1, 1, 1}, 2: {1, 3, 3}, 3: {3, 3, 6}, 4: {4, 7, 14}, 5: {10, 7, 28}, 6: {15, 15, 60}, 7: {35, 15, 120}} {
		if n == 0 {
			continue
		}
		l, e := quorum.All(n)
		if len(l) != x.many || l[0] != x.first || l[len(l)-1] != x.last || e != api.OK {
			t.Errorf("All(%d): %v, %d", n, l, e)
		}
	}
}

// P11.1, P11.5, R4: what is returned is new each time.
func TestNewMemory(t *testing.T) {
	for n := 1; n <= mostNodes; n++ {
		l, _ := quorum.All(n)
		before := slices.Clone(l)
		clear(l)
		if again, _ := quorum.All(n); !slices.Equal(again, before) {
			t.Errorf("All(%d): %v, then %v", n, before, again)
		}
		set := setOf(0, n, 63)
		clear(quorum.Nodes(set))
		if again := quorum.Nodes(set); !slices.Equal(again, []int{0, n, 63}) {
			t.Errorf("Nodes(%d): %v", set, again)
		}
	}
}

// P11.2: all sets of all groups, also of numbers of nodes that no group has, and sets with nodes that a group hasn't.
func TestIsAndSurvives(t *testing.T) {
	for _, n := range counts {
		for _, set := range manySets() {
			good := isCount(n) && isSet(set, n)
			is, e := quorum.Is(set, n)
			if is != (good && isMajority(set, n)) {
				t.Errorf("Is(%b, %d): %t", set, n, is)
			}
			expectError(t, e, good, "Is", set, n)
			survives, f := quorum.Survives(set, n)
			if survives != (good && isMajority(others(set, n), n)) {
				t.Errorf("Survives(%b, %d): %t", set, n, survives)
			}
			expectError(t, f, good, "Survives", set, n)
		}
	}
}

// P11.2: exactly half of the nodes, one more, none, and all of them.
func TestIsAroundHalf(t *testing.T) {
	for n := 1; n <= mostNodes; n++ {
		for start := range n {
			var set uint64
			for k := range n + 1 {
				is, e := quorum.Is(set, n)
				survives, f := quorum.Survives(set, n)
				if is != (2*k > n) || survives != (2*k < n) || e != api.OK || f != api.OK {
					t.Errorf("%d of %d nodes, %b: %t, %d; %t, %d", k, n, set, is, e, survives, f)
				}
				set |= setOf((start + k) % n)
			}
		}
	}
}

// P11.3: each node, added to each set; nodes on both sides of those that the group has, sets with such nodes, and
// numbers of nodes that no group has.
func TestWith(t *testing.T) {
	for _, n := range counts {
		for _, set := range manySets() {
			for _, node := range nodes {
				good := isCount(n) && isSet(set, n) && node >= 0 && node < n
				want := uint64(0)
				if good {
					l, _ := nodesOf(set)
					want = setOf(append(l, node)...)
				}
				got, e := quorum.With(set, node, n)
				if got != want {
					t.Errorf("With(%b, %d, %d): %b, want %b", set, node, n, got, want)
				}
				expectError(t, e, good, "With", set, node, n)
			}
		}
	}
}

// P11.3: the first and the last node of each group and those next to them; a node that a set has already.
func TestWithEnds(t *testing.T) {
	for n := 1; n <= mostNodes; n++ {
		everyone := others(0, n)
		for _, node := range []int{0, n - 1} {
			one, e := quorum.With(0, node, n)
			again, f := quorum.With(one, node, n)
			all, g := quorum.With(everyone, node, n)
			if one != setOf(node) || again != one || all != everyone || e != api.OK || f != api.OK || g != api.OK {
				t.Errorf("%d of %d: %b, %d; %b, %d; %b, %d", node, n, one, e, again, f, all, g)
			}
		}
		for _, node := range []int{-1, n} {
			if set, e := quorum.With(0, node, n); set != 0 || e != api.ErrArg {
				t.Errorf("With(0, %d, %d): %b, %d", node, n, set, e)
			}
		}
	}
}

// expectMeet checks which node two sets of n nodes share.
func expectMeet(t *testing.T, a, b uint64, n int) {
	t.Helper()
	node, meet := 0, false
	good := isCount(n) && isSet(a, n) && isSet(b, n)
	if good {
		l, _ := nodesOf(a)
		if i := slices.IndexFunc(l, func(node int) bool { return has(b, node) }); i >= 0 {
			node, meet = l[i], true
		}
	}
	gotNode, got, e := quorum.Meet(a, b, n)
	if gotNode != node || got != meet {
		t.Errorf("Meet(%b, %b, %d): %d, %t; want %d, %t", a, b, n, gotNode, got, node, meet)
	}
	expectError(t, e, good, "Meet", a, b, n)
}

// P11.4: all pairs of sets of all groups: without a common node, with one and with more; the same set twice.
func TestMeet(t *testing.T) {
	for n := 1; n <= mostNodes; n++ {
		for _, a := range setsOf(n) {
			for _, b := range setsOf(n) {
				expectMeet(t, a, b, n)
			}
		}
	}
}

// P11.4: either set has a node that the group doesn't have, or both have it, or there is no such group.
func TestMeetErrors(t *testing.T) {
	for _, n := range counts {
		for _, set := range manySets() {
			for _, other := range []uint64{0, 1, 2, setOf(0, 1, 2), 127, 128, 255, 1 << 63, math.MaxUint64, set} {
				expectMeet(t, set, other, n)
				expectMeet(t, other, set, n)
			}
		}
	}
}

// P11.2 to P11.4: the nodes n, 7 and 63 are none of a group of n nodes, alone and besides others.
func TestNodesBeyond(t *testing.T) {
	for n := 1; n <= mostNodes; n++ {
		for _, node := range []int{n, 7, 63} {
			for _, part := range setsOf(n) {
				set := part | setOf(node)
				_, a := quorum.Is(set, n)
				_, b := quorum.Survives(set, n)
				_, c := quorum.With(set, 0, n)
				_, _, d := quorum.Meet(set, part, n)
				_, _, e := quorum.Meet(part, set, n)
				if a != api.ErrArg || b != api.ErrArg || c != api.ErrArg || d != api.ErrArg || e != api.ErrArg {
					t.Errorf("%b of %d nodes: %d, %d, %d, %d, %d", set, n, a, b, c, d, e)
				}
			}
		}
	}
}

// expectNodes checks how many nodes a set has, and which.
func expectNodes(t *testing.T, set uint64) {
	t.Helper()
	l, k := nodesOf(set)
	if got := quorum.Nodes(set); !slices.Equal(got, l) {
		t.Errorf("Nodes(%b): %v, want %v", set, got, l)
	}
	if got := quorum.Count(set); got != k {
		t.Errorf("Count(%b): %d, want %d", set, got, k)
	}
}

// P11.5: any sets, also of nodes that no group has: the empty one, each single node, all 64 bits, and random ones.
func TestCountAndNodes(t *testing.T) {
	for _, set := range manySets() {
		expectNodes(t, set)
	}
	r := rand.New(rand.NewSource(11))
	for range 20_000 {
		set := r.Uint64()
		for range r.Intn(4) {
			set &= r.Uint64()
		}
		expectNodes(t, set)
		expectNodes(t, ^set)
	}
	if l := quorum.Nodes(0); len(l) != 0 || quorum.Count(0) != 0 {
		t.Errorf("the empty set: %v", l)
	}
	if l := quorum.Nodes(math.MaxUint64); len(l) != 64 || l[0] != 0 || l[63] != 63 {
		t.Errorf("all nodes: %v", l)
	}
}

// majorities returns the sets of a group that Is says are majorities.
func majorities(t *testing.T, n int) []uint64 {
	t.Helper()
	var l []uint64
	for _, set := range setsOf(n) {
		is, e := quorum.Is(set, n)
		expectError(t, e, true, "Is", set, n)
		if is {
			l = append(l, set)
		}
	}
	if len(l) == 0 {
		t.Errorf("no majority of %d nodes", n)
	}
	return l
}

// P11.6: two majorities have a node in common, which is a node of both; a set and the other nodes are not both
// majorities. One of the two is, if the number of nodes is odd.
func TestMeeting(t *testing.T) {
	for n := 1; n <= mostNodes; n++ {
		l := majorities(t, n)
		for _, a := range l {
			for _, b := range l {
				node, meet, e := quorum.Meet(a, b, n)
				if !meet || e != api.OK || node >= n || !has(a, node) || !has(b, node) {
					t.Errorf("Meet(%b, %b, %d): %d, %t, %d", a, b, n, node, meet, e)
				}
			}
		}
		for _, set := range setsOf(n) {
			is, isRest := slices.Contains(l, set), slices.Contains(l, others(set, n))
			if is && isRest || n%2 == 1 && !is && !isRest {
				t.Errorf("%b and the others of %d nodes: %t, %t", set, n, is, isRest)
			}
		}
	}
}

// P11.7: a set that contains a majority is one, also if it was made by With.
func TestMore(t *testing.T) {
	for n := 1; n <= mostNodes; n++ {
		l := majorities(t, n)
		for _, set := range l {
			for _, more := range setsOf(n) {
				if !slices.Contains(l, set|more) {
					t.Errorf("%b of %d nodes is a majority, %b is none", set, n, set|more)
				}
			}
			for node := range n {
				if more, e := quorum.With(set, node, n); !slices.Contains(l, more) || e != api.OK {
					t.Errorf("%b of %d nodes is a majority, %b with %d is none (%d)", set, n, more, node, e)
				}
			}
		}
	}
}

// P11.7: each majority contains one of the smallest majorities; without one of its nodes, such a one is none. All of
// them have as many nodes as Size says.
func TestSmallest(t *testing.T) {
	for n := 1; n <= mostNodes; n++ {
		smallest, e := quorum.All(n)
		expectError(t, e, true, "All", n)
		for _, set := range majorities(t, n) {
			if !slices.ContainsFunc(smallest, func(s uint64) bool { return s&set == s }) {
				t.Errorf("%b of %d nodes contains none of %b", set, n, smallest)
			}
		}
		size, _ := quorum.Size(n)
		for _, set := range smallest {
			if quorum.Count(set) != size {
				t.Errorf("%b of %d nodes has %d, not %d", set, n, quorum.Count(set), size)
			}
			for _, node := range quorum.Nodes(set) {
				less := set - setOf(node)
				if is, e := quorum.Is(less, n); is || e != api.OK {
					t.Errorf("%b of %d nodes without %d: %t, %d", set, n, node, is, e)
				}
			}
		}
	}
}

// P11.8: a majority is left exactly if fewer than n - Size + 1 nodes are down.
func TestCrashes(t *testing.T) {
	for n := 1; n <= mostNodes; n++ {
		size, _ := quorum.Size(n)
		for _, down := range setsOf(n) {
			survives, e := quorum.Survives(down, n)
			if survives != (quorum.Count(down) < n-size+1) || e != api.OK {
				t.Errorf("Survives(%b, %d): %t, %d", down, n, survives, e)
			}
		}
	}
}

// P11.8: of 1 to 7 nodes, so many may be down, whichever they are.
func TestCrashesAllowed(t *testing.T) {
	for n, most := range []int{1: 0, 2: 0, 3: 1, 4: 1, 5: 2, 6: 2, 7: 3} {
		if n == 0 {
			continue
		}
		for _, down := range setsOf(n) {
			_, k := nodesOf(down)
			if survives, e := quorum.Survives(down, n); survives != (k <= most) || e != api.OK {
				t.Errorf("Survives(%b, %d): %t, %d", down, n, survives, e)
			}
		}
	}
}

// R8: equal calls return equal results, whatever is called between them.
func TestSameAgain(t *testing.T) {
	all := func(a, b uint64, node, n int) string {
		return fmt.Sprint(quorum.Size(n)) + fmt.Sprint(quorum.All(n)) + fmt.Sprint(quorum.Is(a, n)) +
			fmt.Sprint(quorum.With(a, node, n)) + fmt.Sprint(quorum.Meet(a, b, n)) + fmt.Sprint(quorum.Survives(b, n)) +
			fmt.Sprint(quorum.Count(a), quorum.Nodes(b))
	}
	good := func() string { return all(3, 6, 2, 3) }
	wrong := func() string { return all(1<<63, 1<<7, -1, 8) }
	first, second := good(), wrong()
	if again := good(); again != first {
		t.Errorf("%s, then %s", first, again)
	}
	if again := wrong(); again != second {
		t.Errorf("%s, then %s", second, again)
	}
}

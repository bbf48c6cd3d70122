package ballot_test

import (
	"cmp"
	"fmt"
	"math"
	"math/rand"
	"regexp"
	"slices"
	"strconv"
	"strings"
	"testing"

	"skald/api"
	"skald/ballot"
)

const (
	lastRound = 1 << 30
	mostNodes = 7
)

var zero api.Ballot

// Numbers in and around what is allowed, and far away, in order.
var (
	rounds = []int{math.MinInt, math.MinInt + 1, -1 << 32, -lastRound - 1, -lastRound, -2, -1, 0, 1, 2, 3, 5, 10, 1 << 29, lastRound - 2, lastRound - 1, lastRound, lastRound + 1, lastRound + 2, 1 << 31, 1 << 32, 1<<32 + 1, 1<<32 + lastRound, 1 << 40, math.MaxInt - 1, math.MaxInt}
	nodes  = []int{math.MinInt, math.MinInt + 1, -1 << 32, -7, -2, -1, 0, 1, 2, 3, 4, 5, 6, 7, 8, 9, 1 << 32, 1<<32 + 1, math.MaxInt - 1, math.MaxInt}
	counts = []int{math.MinInt, -1 << 32, -7, -1, 0, 1, 2, 3, 4, 5, 6, 7, 8, 9, 1 << 32, 1<<32 + 1, 1<<32 + 7, math.MaxInt}
)

// bl returns a ballot.
func bl(round, node int) api.Ballot { return api.Ballot{Round: round, Node: node} }

// inOrder returns the ballots of all rounds and nodes, valid or not, in their order.
func inOrder() []api.Ballot {
	var l []api.Ballot
	for _, round := range rounds {
		for _, node := range nodes {
			l = append(l, bl(round, node))
		}
	}
	return l
}

// validFor reports whether a ballot is valid for n nodes as the chapter defines it.
func validFor(b api.Ballot, n int) bool {
	return b == zero || (b.Round >= 1 && b.Round <= 1<<30 && b.Node >= 0 && b.Node <= n-1)
}

// isCount reports whether n is a number of nodes as the chapter defines it.
func isCount(n int) bool { return n >= 1 && n <= 7 }

// inRounds returns all valid ballots of n nodes in rounds that follow each other, in order.
func inRounds(first, last, n int) []api.Ballot {
	var l []api.Ballot
	for round := first; round <= last; round++ {
		for node := range n {
			l = append(l, bl(round, node))
		}
	}
	return l
}

// windows are lists of all valid ballots of n nodes that stand between two of them: the first ones with the zero
// ballot, some in the middle, and the last ones.
func windows(n int) [][]api.Ballot {
	return [][]api.Ballot{
		slices.Insert(inRounds(1, 12, n), 0, zero),
		inRounds(95, 105, n),
		inRounds(1<<16-4, 1<<16+4, n),
		inRounds(1<<29-4, 1<<29+4, n),
		inRounds(lastRound-10, lastRound, n),
	}
}

// someValid returns valid ballots of n nodes, in order.
func someValid(n int) []api.Ballot { return slices.Concat(windows(n)...) }

var form = regexp.MustCompile(`\A([1-9][0-9]{0,9})\.([0-6])\z`)

// definedParse returns the ballot with a text as the chapter defines it, and false if there is none.
func definedParse(s string) (api.Ballot, bool) {
	if s == "0.0" {
		return zero, true
	}
	m := form.FindStringSubmatch(s)
	if m == nil {
		return zero, false
	}
	round, _ := strconv.ParseInt(m[1], 10, 64)
	if round > lastRound {
		return zero, false
	}
	return bl(int(round), int(m[2][0]-'0')), true
}

// expectParsed checks what a text is read as.
func expectParsed(t *testing.T, s string) {
	t.Helper()
	want, is := definedParse(s)
	e := api.ErrForm
	if is {
		e = api.OK
	}
	if b, f := ballot.Parse(s); b != want || f != e {
		t.Errorf("Parse(%.40q): %v, %d; want %v, %d", s, b, f, want, e)
	}
}

// expectNext checks the next ballot of a node.
func expectNext(t *testing.T, b api.Ballot, node int, want api.Ballot, e api.Errno) {
	t.Helper()
	if next, f := ballot.Next(b, node); next != want || f != e {
		t.Errorf("Next(%v, %d): %v, %d; want %v, %d", b, node, next, f, want, e)
	}
}

// P10.1 to P10.5: the chapter's table of examples.
func TestExamples(t *testing.T) {
	for k, x := range []struct{ got, want any }{
		{ballot.Order(bl(5, 2), bl(5, 3)), -1},
		{ballot.Order(bl(6, 0), bl(5, 3)), 1},
		{ballot.Order(bl(5, 2), bl(5, 2)), 0},
		{ballot.Max([]api.Ballot{bl(3, 1), bl(4, 0), bl(2, 6)}), bl(4, 0)},
		{ballot.Max(nil), bl(0, 0)},
	} {
		if x.got != x.want {
			t.Errorf("example %d: %v, want %v", k, x.got, x.want)
		}
	}
	expectNext(t, zero, 3, bl(1, 3), api.OK)
	expectNext(t, bl(5, 2), 3, bl(5, 3), api.OK)
	expectNext(t, bl(5, 2), 2, bl(6, 2), api.OK)
	expectNext(t, bl(5, 2), 0, bl(6, 0), api.OK)
	expectNext(t, bl(lastRound, 2), 2, zero, api.ErrOver)
	expectNext(t, bl(lastRound, 2), 3, bl(lastRound, 3), api.OK)
	expectNext(t, bl(lastRound, 2), 7, zero, api.ErrArg)
	expectNumber(t, bl(5, 2), 3, 15, api.OK)
	expectNumber(t, zero, 3, 0, api.OK)
	expectNumber(t, bl(5, 3), 3, 0, api.ErrArg)
	expectFromNumber(t, 15, 3, bl(5, 2), api.OK)
	expectFromNumber(t, 16, 3, bl(6, 0), api.OK)
	expectFromNumber(t, -1, 3, zero, api.ErrRange)
	for b, want := range map[api.Ballot]string{bl(5, 2): "5.2", zero: "0.0"} {
		if s, e := ballot.Text(b); s != want || e != api.OK {
			t.Errorf("Text(%v): %q, %d; want %q", b, s, e, want)
		}
	}
	for _, s := range []string{"05.2", "0.1", "5.7"} {
		if b, e := ballot.Parse(s); b != zero || e != api.ErrForm {
			t.Errorf("Parse(%q): %v, %d; want ErrForm", s, b, e)
		}
	}
}

// P10.1: all rounds, nodes and numbers of nodes on both sides of what is allowed; the zero ballot is valid for each
// number of nodes, but not for one that no group has.
func TestCheck(t *testing.T) {
	for _, b := range inOrder() {
		for _, n := range counts {
			want := api.ErrArg
			if isCount(n) && validFor(b, n) {
				want = api.OK
			}
			if e := ballot.Check(b, n); e != want {
				t.Errorf("Check(%v, %d): %d, want %d", b, n, e, want)
			}
		}
	}
}

// P10.1: the last node of each number of nodes is valid, the one behind it is not.
func TestCheckLastNode(t *testing.T) {
	for n := 1; n <= mostNodes; n++ {
		for _, round := range []int{1, lastRound} {
			last, behind := ballot.Check(bl(round, n-1), n), ballot.Check(bl(round, n), n)
			if last != api.OK || behind != api.ErrArg {
				t.Errorf("round %d of %d nodes: %d, %d", round, n, last, behind)
			}
		}
		if e := ballot.Check(zero, n); e != api.OK {
			t.Errorf("the zero ballot for %d nodes: %d", n, e)
		}
	}
}

// P10.2, P10.6: the order of any two ballots, valid or not, is that of their places in a list in order; so it is total.
func TestOrder(t *testing.T) {
	l := inOrder()
	for i, a := range l {
		for j, b := range l {
			if got, want := ballot.Order(a, b), cmp.Compare(i, j); got != want {
				t.Errorf("Order(%v, %v): %d, want %d", a, b, got, want)
			}
		}
	}
}

// P10.2: the greatest ballot of lists of up to four, with each one at each place, also more than once.
func TestMaxOfFew(t *testing.T) {
	some := []api.Ballot{bl(math.MinInt, math.MaxInt), bl(-3, 1), bl(-3, 2), bl(0, -1), zero, bl(0, 1), bl(1, 0), bl(1, 6), bl(2, 0), bl(10, 0), bl(lastRound, 6), bl(math.MaxInt, -5), bl(math.MaxInt, math.MinInt)}
	slices.SortFunc(some, func(a, b api.Ballot) int { return cmp.Or(cmp.Compare(a.Round, b.Round), cmp.Compare(a.Node, b.Node)) })
	var try func(l []api.Ballot, greatest int)
	try = func(l []api.Ballot, greatest int) {
		if len(l) > 0 {
			if b := ballot.Max(l); b != some[greatest] {
				t.Errorf("Max(%v): %v, want %v", l, b, some[greatest])
			}
		}
		if len(l) == 4 {
			return
		}
		for i, b := range some {
			try(append(slices.Clone(l), b), max(greatest, i))
		}
	}
	try(nil, 0)
}

// P10.2: the greatest ballot of long lists, wherever it stands; none of an empty list.
func TestMaxOfMany(t *testing.T) {
	r := rand.New(rand.NewSource(10))
	all := inOrder()
	for range 3_000 {
		var l []api.Ballot
		greatest := -1
		for range 1 + r.Intn(60) {
			i := r.Intn(len(all))
			l = append(l, all[i])
			greatest = max(greatest, i)
		}
		if b := ballot.Max(l); b != all[greatest] {
			t.Fatalf("Max(%v): %v, want %v", l, b, all[greatest])
		}
	}
	for _, l := range [][]api.Ballot{nil, {}, all[:0], all[len(all):]} {
		if b := ballot.Max(l); b != zero {
			t.Errorf("Max of an empty list: %v", b)
		}
	}
}

// P10.2, R4: what stands behind a list's length does not count, and nothing is changed.
func TestMaxLeavesList(t *testing.T) {
	l := []api.Ballot{bl(3, 1), bl(4, 0), bl(2, 6), bl(9, 9), bl(1, 1)}
	before := slices.Clone(l)
	if b := ballot.Max(l[:3]); b != bl(4, 0) {
		t.Errorf("Max: %v", b)
	}
	if b := ballot.Max(l[:0]); b != zero {
		t.Errorf("Max of an empty list: %v", b)
	}
	if !slices.Equal(l, before) {
		t.Errorf("the list is now %v", l)
	}
}

// P10.3, P10.7: the next ballot of a node is the first one of this node behind the ballot in a list of all valid ones;
// at the list's end, that of the last round, there may be none.
func TestNext(t *testing.T) {
	for _, l := range windows(mostNodes) {
		for i, b := range l {
			for node := range mostNodes {
				isNodes := func(x api.Ballot) bool { return x.Node == node }
				j := slices.IndexFunc(l[i+1:], isNodes)
				switch {
				case j >= 0:
					expectNext(t, b, node, l[i+1+j], api.OK)
				case b.Round == lastRound:
					expectNext(t, b, node, zero, api.ErrOver)
				}
			}
		}
	}
}

// P10.3: the nodes that have a ballot left in the last round are those behind the ballot's node.
func TestNextAtEnd(t *testing.T) {
	for at := range mostNodes {
		for node := range mostNodes {
			if node > at {
				expectNext(t, bl(lastRound-1, at), node, bl(lastRound-1, node), api.OK)
				expectNext(t, bl(lastRound, at), node, bl(lastRound, node), api.OK)
			} else {
				expectNext(t, bl(lastRound-1, at), node, bl(lastRound, node), api.OK)
				expectNext(t, bl(lastRound, at), node, zero, api.ErrOver)
			}
		}
	}
}

// P10.3: ballots that are not valid, nodes that do not exist, and both; also where no ballot would be left.
func TestNextErrors(t *testing.T) {
	for _, b := range inOrder() {
		for _, node := range nodes {
			if !validFor(b, mostNodes) || node < 0 || node >= mostNodes {
				expectNext(t, b, node, zero, api.ErrArg)
			}
		}
	}
}

// P10.7: Next is behind the ballot, is one of the node, and two nodes never have the same; no ballot of this node is
// between them, since the one a round before is not behind the ballot.
func TestNextProperties(t *testing.T) {
	for _, b := range someValid(mostNodes) {
		seen := map[api.Ballot]int{}
		for node := range mostNodes {
			next, e := ballot.Next(b, node)
			if e == api.ErrOver && b.Round == lastRound {
				continue
			}
			if e != api.OK || ballot.Check(next, mostNodes) != api.OK || next == zero || next.Node != node || ballot.Order(b, next) != -1 {
				t.Errorf("Next(%v, %d): %v, %d", b, node, next, e)
			}
			before := bl(next.Round-1, node)
			if before.Round >= 1 && ballot.Order(b, before) < 0 {
				t.Errorf("Next(%v, %d): %v is behind %v", b, node, next, before)
			}
			if other, is := seen[next]; is {
				t.Errorf("Next(%v): the nodes %d and %d both have %v", b, other, node, next)
			}
			seen[next] = node
		}
	}
}

// P10.3, P10.7: nodes that outbid each other, from the zero ballot on: each number that Next skips is another node's.
func TestNextCourse(t *testing.T) {
	r := rand.New(rand.NewSource(3))
	b, number := zero, 0
	for range 20_000 {
		node := r.Intn(mostNodes)
		number++
		for (number-1)%mostNodes != node {
			number++
		}
		want := bl((number-1)/mostNodes+1, node)
		expectNext(t, b, node, want, api.OK)
		b = want
	}
}

// P10.4, P10.8: valid ballots have texts, which no two of them share, and are read from them.
func TestTexts(t *testing.T) {
	seen := map[string]bool{}
	for _, b := range someValid(mostNodes) {
		want := fmt.Sprintf("%d.%d", b.Round, b.Node)
		s, e := ballot.Text(b)
		back, f := ballot.Parse(s)
		if s != want || e != api.OK || back != b || f != api.OK || seen[s] {
			t.Errorf("%v: %q, %d; %v, %d; seen before: %t", b, s, e, back, f, seen[s])
		}
		seen[s] = true
	}
}

// P10.4: a ballot has a text just if it is valid, and the text that it would have otherwise is not read.
func TestTextErrors(t *testing.T) {
	for _, b := range inOrder() {
		want, e := "", api.ErrArg
		if validFor(b, mostNodes) {
			want, e = fmt.Sprintf("%d.%d", b.Round, b.Node), api.OK
		}
		if s, f := ballot.Text(b); s != want || f != e {
			t.Errorf("Text(%v): %q, %d; want %q, %d", b, s, f, want, e)
		}
		expectParsed(t, fmt.Sprintf("%d.%d", b.Round, b.Node))
	}
}

// P10.4: numbers that are not written as they have to be, or are not allowed, at each of the two places.
func TestWrongNumbers(t *testing.T) {
	for _, n := range []string{"", "0", "00", "01", "005", "+0", "-0", "+1", "-1", "++1", "--1", " 1", "1 ", "1\n", "\t1", "1_0", "0x1", "0b1", "0o1", "1e1", "1.", ".1", "1.0", "1,0", "6", "7", "8", "10", "1073741823", "1073741824", "1073741825", "01073741824", "2147483648", "4294967297", "9223372036854775807", "9223372036854775808", "-9223372036854775808", "-9223372036854775809", "18446744073709551617", "a", "٣", "１", "\x00", "\xff", strings.Repeat("9", 70_000), strings.Repeat("0", 70_000), strings.Repeat("0", 70_000) + "1"} {
		for _, other := range []string{"", "0", "1", "5", "6", "7", "1073741824", n} {
			expectParsed(t, n+"."+other)
			expectParsed(t, other+"."+n)
			expectParsed(t, n+"/"+other)
			expectParsed(t, n+other)
		}
	}
}

// P10.4: texts with fewer or more than two parts.
func TestWrongParts(t *testing.T) {
	for _, s := range []string{"", ".", "..", "...", "0", "5", "5.", ".2", ".0", "0.", "5..2", ".5.2", "5.2.", "5.2.0", "5.2.1.0", "0.0.0", "0.0.", ".0.0", "5 2", "5,2", "5:2", "5-2", "52", "5.2 ", " 5.2", "5. 2", "5 .2", "5.2\n", "\n5.2", "5.2\x00", "5．2", "5·2", "(5.2)", "5.25.2", "0.00.0"} {
		if b, e := ballot.Parse(s); b != zero || e != api.ErrForm {
			t.Errorf("Parse(%q): %v, %d; want ErrForm", s, b, e)
		}
	}
}

// P10.4: texts of which a byte is taken away, added or changed.
func TestChangedTexts(t *testing.T) {
	for _, s := range []string{"0.0", "1.0", "5.2", "1.6", "10.3", "99.5", "1073741823.6", "1073741824.0", "1073741824.6"} {
		expectParsed(t, s)
		for i := range len(s) + 1 {
			expectParsed(t, s[:i])
			expectParsed(t, s[i:])
			for c := range 256 {
				expectParsed(t, s[:i]+string([]byte{byte(c)})+s[i:])
			}
		}
		for i := range s {
			expectParsed(t, s[:i]+s[i+1:])
			for c := range 256 {
				expectParsed(t, s[:i]+string([]byte{byte(c)})+s[i+1:])
			}
		}
	}
}

// P10.4: texts of the bytes that texts have, and of others, in any order.
func TestAnyTexts(t *testing.T) {
	r := rand.New(rand.NewSource(4))
	parts := []string{".", ".", "0", "1", "2", "6", "7", "9", "10", "1073741824", "1073741825", " ", "-", "+"}
	for range 200_000 {
		var s strings.Builder
		for range r.Intn(6) {
			s.WriteString(parts[r.Intn(len(parts))])
		}
		expectParsed(t, s.String())
	}
}

// expectNumber checks the number of a ballot.
func expectNumber(t *testing.T, b api.Ballot, n int, want int64, e api.Errno) {
	t.Helper()
	if k, f := ballot.Number(b, n); k != want || f != e {
		t.Errorf("Number(%v, %d): %d, %d; want %d, %d", b, n, k, f, want, e)
	}
}

// expectFromNumber checks the ballot with a number.
func expectFromNumber(t *testing.T, k int64, n int, want api.Ballot, e api.Errno) {
	t.Helper()
	if b, f := ballot.FromNumber(k, n); b != want || f != e {
		t.Errorf("FromNumber(%d, %d): %v, %d; want %v, %d", k, n, b, f, want, e)
	}
}

// P10.5, P10.6, P10.8: the numbers of all ballots that follow each other do so, too: from 0 on, and up to 2^30 n; and
// each ballot is found by its number.
func TestNumbers(t *testing.T) {
	for n := 1; n <= mostNodes; n++ {
		first := slices.Insert(inRounds(1, 200, n), 0, zero)
		for k, b := range first {
			expectNumber(t, b, n, int64(k), api.OK)
			expectFromNumber(t, int64(k), n, b, api.OK)
		}
		last := inRounds(lastRound-200, lastRound, n)
		slices.Reverse(last)
		for before, b := range last {
			k := int64(n)<<30 - int64(before)
			expectNumber(t, b, n, k, api.OK)
			expectFromNumber(t, k, n, b, api.OK)
		}
	}
}

// P10.5, P10.6, P10.8: any numbers, of which a greater one is that of a ballot behind.
func TestAnyNumbers(t *testing.T) {
	r := rand.New(rand.NewSource(6))
	for n := 1; n <= mostNodes; n++ {
		for range 20_000 {
			k, l := r.Int63n(int64(n)<<30+1), r.Int63n(int64(n)<<30+1)
			a, e := ballot.FromNumber(k, n)
			b, f := ballot.FromNumber(l, n)
			if e != api.OK || f != api.OK || !validFor(a, n) || !validFor(b, n) || ballot.Order(a, b) != cmp.Compare(k, l) {
				t.Fatalf("FromNumber of %d and %d among %d: %v, %d; %v, %d", k, l, n, a, e, b, f)
			}
			expectNumber(t, a, n, k, api.OK)
			expectNumber(t, b, n, l, api.OK)
		}
	}
}

// P10.6: valid ballots of n nodes are in the order of their numbers, near to each other or far away.
func TestNumbersInOrder(t *testing.T) {
	for n := 1; n <= mostNodes; n++ {
		before := int64(-1)
		for _, b := range someValid(n) {
			k, e := ballot.Number(b, n)
			if e != api.OK || k <= before {
				t.Errorf("Number(%v, %d): %d, %d, behind %d", b, n, k, e, before)
			}
			before = k
		}
	}
}

// P10.5: ballots that are not valid for n nodes, and numbers of nodes that no group has; the number of any other one is
// that of the definition.
func TestNumberErrors(t *testing.T) {
	for _, b := range inOrder() {
		for _, n := range counts {
			switch {
			case !isCount(n) || !validFor(b, n):
				expectNumber(t, b, n, 0, api.ErrArg)
			case b == zero:
				expectNumber(t, b, n, 0, api.OK)
			default:
				expectNumber(t, b, n, (int64(b.Round)-1)*int64(n)+int64(b.Node)+1, api.OK)
			}
		}
	}
}

// P10.5: numbers that no ballot has, on both sides of those that are there, and numbers of nodes that no group has;
// these come first.
func TestFromNumberErrors(t *testing.T) {
	for _, n := range counts {
		end := int64(max(1, min(n, mostNodes))) << 30
		for _, k := range []int64{math.MinInt64, math.MinInt64 + 1, -1 << 40, -end, -2, -1, 0, 1, end - 1, end, end + 1, end + 2, 2 * end, 1 << 40, 1 << 62, math.MaxInt64 - 1, math.MaxInt64} {
			b, e := ballot.FromNumber(k, n)
			switch {
			case !isCount(n):
				expectFromNumber(t, k, n, zero, api.ErrArg)
			case k < 0 || k > end:
				expectFromNumber(t, k, n, zero, api.ErrRange)
			case e != api.OK || !validFor(b, n) || (b == zero) != (k == 0):
				t.Errorf("FromNumber(%d, %d): %v, %d", k, n, b, e)
			}
		}
	}
}

// R8: equal calls return equal results, whatever is called between them.
func TestSameAgain(t *testing.T) {
	all := func(a, b api.Ballot, n int, s string, k int64) string {
		next, e := ballot.Next(a, n)
		text, f := ballot.Text(a)
		read, g := ballot.Parse(s)
		number, h := ballot.Number(a, n)
		found, i := ballot.FromNumber(k, n)
		return fmt.Sprint(next, e, text, f, read, g, number, h, found, i, ballot.Check(a, n), ballot.Order(a, b), ballot.Max([]api.Ballot{a, b}))
	}
	good := func() string { return all(bl(5, 2), bl(6, 0), 3, "7.1", 16) }
	wrong := func() string { return all(bl(-5, 2), bl(6, 9), 8, "07.1", -1) }
	first, second := good(), wrong()
	if again := good(); again != first {
		t.Errorf("%s, then %s", first, again)
	}
	if again := wrong(); again != second {
		t.Errorf("%s, then %s", second, again)
	}
}

package ranges_test

import (
	"fmt"
	"math/rand"
	"regexp"
	"slices"
	"strings"
	"testing"

	"skald/api"
	"skald/ranges"
)

const most = 64 // ranges that Cover takes

var (
	names = regexp.MustCompile(`\A[a-z0-9]{1,16}\z`)
	texts = regexp.MustCompile(`\A\[([a-z0-9]{0,16}),([a-z0-9]{0,16})\)\z`)

	// places are names in their order, next to each other and far away.
	places = []string{"0", "00", "01", "9", "a", "a0", "aa", "aaaaaaaaaaaaaaaa", "ab", "b", "m", "m0", "z", "zz", "zzzzzzzzzzzzzzzz"}

	// notNames are texts that are neither empty nor names.
	notNames = []string{"A", "a b", " ", "a ", ",", "[", ")", "a,b", "-", "a-b", "é", "ａ", "\x00", "a\n", "\xff", "{", "/", ":", "`", "aaaaaaaaaaaaaaaaa", "zzzzzzzzzzzzzzzzz", strings.Repeat("a", 256+1), strings.Repeat("z", 1<<16+1)}
)

// between returns the range of two ends.
func between(from, to string) api.Range { return api.Range{From: from, To: to} }

// span is a range whose ends are counted: low is 0 for an empty From, and 1 for places[0] and so on; high is 1 for
// places[0] and so on, and one more than the last place for an empty To. So spans need no rules for empty ends.
type span struct{ low, high int }

// spanOf counts the ends of a valid range whose ends are places.
func spanOf(r api.Range) span {
	s := span{slices.Index(places, r.From) + 1, slices.Index(places, r.To) + 1}
	if r.To == "" {
		s.high = len(places) + 1
	}
	return s
}

// rangeOf is the opposite of spanOf.
func rangeOf(s span) api.Range {
	var r api.Range
	if s.low > 0 {
		r.From = places[s.low-1]
	}
	if s.high <= len(places) {
		r.To = places[s.high-1]
	}
	return r
}

// validRanges returns all valid ranges whose ends are places.
func validRanges() []api.Range {
	var l []api.Range
	for low := range len(places) + 1 {
		for high := low + 1; high <= len(places)+1; high++ {
			l = append(l, rangeOf(span{low, high}))
		}
	}
	return l
}

// wrongRanges returns ranges that are not valid: those with ends that are no names, and those that end too early.
func wrongRanges() []api.Range {
	var l []api.Range
	for _, s := range notNames {
		l = append(l, between(s, ""), between("", s), between(s, s), between(s, "zz"), between("0", s))
	}
	for i, to := range places {
		for _, from := range places[i:] {
			l = append(l, between(from, to))
		}
	}
	return l
}

// keys returns texts in and around all ranges, names or not.
func keys() []string {
	l := append([]string{"", "1", "000", "8z", "9z", "a00", "a9", "ac", "azzz", "l", "lzz", "L", "n", "y", "zzz"}, places...)
	return append(l, notNames...)
}

// valid reports whether a range is valid as the chapter defines it.
func valid(r api.Range) bool {
	isFrom, isTo := r.From == "" || names.MatchString(r.From), r.To == "" || names.MatchString(r.To)
	return isFrom && isTo && (r.To == "" || strings.Compare(r.From, r.To) < 0)
}

// has reports whether a key is in a range as the chapter defines it.
func has(r api.Range, key string) bool {
	reaches := r.To == "" || strings.Compare(key, r.To) < 0
	return valid(r) && names.MatchString(key) && strings.Compare(key, r.From) >= 0 && reaches
}

// expectRange checks what Check and Text say about a range, and that a valid one is read from its text.
func expectRange(t *testing.T, r api.Range) {
	t.Helper()
	text, want := "", api.ErrArg
	if valid(r) {
		text, want = "["+r.From+","+r.To+")", api.OK
	}
	if e := ranges.Check(r); e != want {
		t.Errorf("Check(%q): %d, want %d", r, e, want)
	}
	if s, e := ranges.Text(r); s != text || e != want {
		t.Errorf("Text(%q): %q, %d; want %q, %d", r, s, e, text, want)
	}
	if want != api.OK {
		expectParsed(t, "["+r.From+","+r.To+")")
		return
	}
	if back, e := ranges.Parse(text); back != r || e != api.OK {
		t.Errorf("Parse(%q): %q, %d; want %q", text, back, e, r)
	}
}

// expectParsed checks that a text is read just if it is the text of a valid range.
func expectParsed(t *testing.T, s string) {
	t.Helper()
	want, wantError := api.Range{}, api.ErrForm
	if parts := texts.FindStringSubmatch(s); parts != nil && valid(between(parts[1], parts[2])) {
		want, wantError = between(parts[1], parts[2]), api.OK
	}
	r, e := ranges.Parse(s)
	if r != want || e != wantError {
		t.Errorf("Parse(%q): %q, %d; want %q, %d", s, r, e, want, wantError)
	}
	if again, f := ranges.Text(r); e == api.OK && (again != s || f != api.OK) {
		t.Errorf("%q is read as %q with the text %q, %d", s, r, again, f)
	}
}

// expectCover checks what Cover says about ranges.
func expectCover(t *testing.T, l []api.Range, want bool, wantError api.Errno) {
	t.Helper()
	if is, e := ranges.Cover(l); is != want || e != wantError {
		t.Errorf("Cover(%q): %t, %d; want %t, %d", l, is, e, want, wantError)
	}
}

// P6.1, P6.2: the examples of single ranges.
func TestExamples(t *testing.T) {
	for s, r := range map[string]api.Range{"[a,m)": between("a", "m"), "[,)": between("", ""), "[a,)": between("a", "")} {
		if got, e := ranges.Text(r); got != s || e != api.OK {
			t.Errorf("Text(%q): %q, %d; want %q", r, got, e, s)
		}
		if got, e := ranges.Parse(s); got != r || e != api.OK {
			t.Errorf("Parse(%q): %q, %d; want %q", s, got, e, r)
		}
	}
	for _, s := range []string{"[b,a)", "[a,a)", "[a, b)"} {
		if r, e := ranges.Parse(s); r != (api.Range{}) || e != api.ErrForm {
			t.Errorf("Parse(%q): %q, %d; want ErrForm", s, r, e)
		}
	}
	for key, want := range map[string]bool{"a": true, "m": false, "lzz": true, "L": false} {
		if got := ranges.Has(between("a", "m"), key); got != want {
			t.Errorf("Has([a,m), %q): %t", key, got)
		}
	}
	for _, r := range []api.Range{between("m", "a"), between("A", ""), between("", "aaaaaaaaaaaaaaaaa")} {
		if e := ranges.Check(r); e != api.ErrArg {
			t.Errorf("Check(%q): %d, want ErrArg", r, e)
		}
	}
}

// P6.3 to P6.6: the examples of several ranges.
func TestExamplesOfSeveral(t *testing.T) {
	if r, ok, e := ranges.Meet(between("a", "m"), between("k", "")); r != between("k", "m") || !ok || e != api.OK {
		t.Errorf("Meet of [a,m) and [k,): %q, %t, %d", r, ok, e)
	}
	if r, ok, e := ranges.Meet(between("a", "k"), between("k", "")); r != between("", "") || ok || e != api.OK {
		t.Errorf("Meet of [a,k) and [k,): %q, %t, %d", r, ok, e)
	}
	for to, want := range map[string]bool{"k": true, "": false} {
		if got, e := ranges.Less(between("a", to), between("k", "")); got != want || e != api.OK {
			t.Errorf("Less of [a,%s) and [k,): %t, %d", to, got, e)
		}
	}
	for _, x := range []struct {
		a, b api.Range
		want []api.Range
	}{
		{between("", ""), between("c", "f"), []api.Range{between("", "c"), between("f", "")}},
		{between("c", "f"), between("", "d"), []api.Range{between("d", "f")}},
		{between("c", "f"), between("", ""), nil},
	} {
		if got, e := ranges.Without(x.a, x.b); !slices.Equal(got, x.want) || e != api.OK {
			t.Errorf("Without(%q, %q): %q, %d; want %q", x.a, x.b, got, e, x.want)
		}
	}
	if in, e := ranges.Inside(between("c", "f"), between("c", "")); !in || e != api.OK {
		t.Errorf("Inside of [c,f) and [c,): %t, %d", in, e)
	}
	if in, e := ranges.Inside(between("c", ""), between("c", "f")); in || e != api.OK {
		t.Errorf("Inside of [c,) and [c,f): %t, %d", in, e)
	}
	expectCover(t, []api.Range{between("m", ""), between("", "c"), between("c", "m")}, true, api.OK)
	expectCover(t, []api.Range{between("", "c"), between("d", "")}, false, api.OK)
	expectCover(t, nil, false, api.OK)
	expectCover(t, []api.Range{between("", "")}, true, api.OK)
}

// P6.1, P6.2, P6.9: all ranges of some ends, valid or not, and their texts.
func TestRanges(t *testing.T) {
	for _, r := range validRanges() {
		if !valid(r) {
			t.Errorf("%q is not valid", r)
		}
		expectRange(t, r)
	}
	for _, r := range wrongRanges() {
		if valid(r) {
			t.Errorf("%q is valid", r)
		}
		expectRange(t, r)
	}
	for n := range 40 {
		expectRange(t, between(strings.Repeat("a", n), ""))
		expectRange(t, between("", strings.Repeat("a", n)))
		expectRange(t, between(strings.Repeat("a", n), strings.Repeat("z", n)))
	}
}

// P6.1, P6.2: ranges with each byte at each place of their ends.
func TestBytesOfEnds(t *testing.T) {
	for _, base := range []string{"k", "k5", "kkkkkkkkkkkkkkkk", "kkkkkkkkkkkkkkkkk"} {
		for i := range base {
			for c := range 256 {
				s := base[:i] + string([]byte{byte(c)}) + base[i+1:]
				for _, r := range []api.Range{between(s, ""), between("", s), between(s, "z"), between("0", s), between(s, "k5"), between("k5", s), between(s, s)} {
					expectRange(t, r)
				}
			}
		}
	}
}

// P6.1: keys in and around ranges, valid or not.
func TestHas(t *testing.T) {
	for _, r := range append(validRanges(), wrongRanges()...) {
		for _, key := range keys() {
			if got, want := ranges.Has(r, key), has(r, key); got != want {
				t.Errorf("Has(%q, %q): %t, want %t", r, key, got, want)
			}
		}
	}
}

// P6.2, P6.9: texts of which a byte is taken away, added or changed, and texts of the bytes that texts have.
func TestTexts(t *testing.T) {
	for _, s := range []string{"[,)", "[a,)", "[,b)", "[a,m)", "[a0,a1)", "[kkkkkkkkkkkkkkkk,zzzzzzzzzzzzzzzz)"} {
		expectParsed(t, s)
		for i := range s {
			expectParsed(t, s[:i])
			expectParsed(t, s[i:])
			expectParsed(t, s[:i]+s[i+1:])
			for c := range 256 {
				expectParsed(t, s[:i]+string([]byte{byte(c)})+s[i+1:])
			}
		}
		for i := range len(s) + 1 {
			for c := range 256 {
				expectParsed(t, s[:i]+string([]byte{byte(c)})+s[i:])
			}
		}
	}
	for _, s := range []string{"", "[", ")", "[)", ",", "[,", ",)", "[a)", "[a", "a)", "a,b", "(a,b)", "[a,b]", "(a,b]", "[[a,b)", "[a,b))", "[a,b)[a,b)", "[a,,b)", "[a,b,)", "[,a,b)", "[,,)", "[ ,)", " [,)", "[,) ", "[,)\n", "[A,b)", "[a,B)", "[a,\xff)", "[" + strings.Repeat("a", 1<<16) + ",)", "[," + strings.Repeat(",", 1<<16) + ")"} {
		expectParsed(t, s)
	}
	r := rand.New(rand.NewSource(6))
	parts := []string{"[", ",", ")", "[", ",", ")", "a", "b", "a", "b", "0", "z", "aa", "A", " "}
	for range 200_000 {
		var s strings.Builder
		for range r.Intn(8) {
			s.WriteString(parts[r.Intn(len(parts))])
		}
		expectParsed(t, s.String())
	}
}

// P6.3, P6.4: all pairs of ranges.
func TestMeetAndLess(t *testing.T) {
	for _, a := range validRanges() {
		for _, b := range validRanges() {
			x, y := spanOf(a), spanOf(b)
			both := span{max(x.low, y.low), min(x.high, y.high)}
			var want api.Range
			if both.low < both.high {
				want = rangeOf(both)
			}
			r, ok, e := ranges.Meet(a, b)
			if r != want || ok != (both.low < both.high) || e != api.OK {
				t.Errorf("Meet(%q, %q): %q, %t, %d; want %q", a, b, r, ok, e, want)
			}
			less, e := ranges.Less(a, b)
			if less != (x.high <= y.low) || e != api.OK {
				t.Errorf("Less(%q, %q): %t, %d", a, b, less, e)
			}
		}
	}
}

// P6.5: all pairs of ranges.
func TestWithoutAndInside(t *testing.T) {
	for _, a := range validRanges() {
		for _, b := range validRanges() {
			x, y := spanOf(a), spanOf(b)
			var want []api.Range
			if y.low > x.low {
				want = append(want, rangeOf(span{x.low, min(x.high, y.low)}))
			}
			if y.high < x.high {
				want = append(want, rangeOf(span{max(x.low, y.high), x.high}))
			}
			l, e := ranges.Without(a, b)
			if !slices.Equal(l, want) || e != api.OK {
				t.Errorf("Without(%q, %q): %q, %d; want %q", a, b, l, e, want)
			}
			in, e := ranges.Inside(a, b)
			if in != (len(want) == 0) || in != (y.low <= x.low && x.high <= y.high) || e != api.OK {
				t.Errorf("Inside(%q, %q): %t, %d; Without has %q", a, b, in, e, want)
			}
		}
	}
}

// P6.3 to P6.6: a range that is not valid is an error, as the first, the second, or any one of several.
func TestWrongRanges(t *testing.T) {
	expect := func(a, b api.Range) {
		t.Helper()
		if r, ok, e := ranges.Meet(a, b); r != (api.Range{}) || ok || e != api.ErrArg {
			t.Errorf("Meet(%q, %q): %q, %t, %d; want ErrArg", a, b, r, ok, e)
		}
		if less, e := ranges.Less(a, b); less || e != api.ErrArg {
			t.Errorf("Less(%q, %q): %t, %d; want ErrArg", a, b, less, e)
		}
		if l, e := ranges.Without(a, b); len(l) != 0 || e != api.ErrArg {
			t.Errorf("Without(%q, %q): %q, %d; want ErrArg", a, b, l, e)
		}
		if in, e := ranges.Inside(a, b); in || e != api.ErrArg {
			t.Errorf("Inside(%q, %q): %t, %d; want ErrArg", a, b, in, e)
		}
		expectCover(t, []api.Range{a, b}, false, api.ErrArg)
		expectCover(t, []api.Range{between("", "k"), a, between("k", ""), b}, false, api.ErrArg)
	}
	good := []api.Range{between("", ""), between("a", ""), between("", "m"), between("a", "m"), between("y", "z")}
	for _, wrong := range wrongRanges() {
		expect(wrong, wrong)
		expectCover(t, []api.Range{wrong}, false, api.ErrArg)
		for _, r := range good {
			expect(wrong, r)
			expect(r, wrong)
		}
	}
}

// P6.7: which keys are in what Meet and Without return, and what Inside and Less say about keys.
func TestKeys(t *testing.T) {
	count := func(l []api.Range, key string) (n int) {
		for _, r := range l {
			if ranges.Has(r, key) {
				n++
			}
		}
		return n
	}
	all := validRanges()
	for _, a := range all {
		for _, b := range all {
			both, meet, _ := ranges.Meet(a, b)
			rest, _ := ranges.Without(a, b)
			in, _ := ranges.Inside(a, b)
			less, _ := ranges.Less(a, b)
			for _, key := range keys() {
				inA, inB := has(a, key), has(b, key)
				if (meet && ranges.Has(both, key)) != (inA && inB) {
					t.Errorf("%q: in %q %t, in %q %t, Meet is %q", key, a, inA, b, inB, both)
				}
				if n := count(rest, key); (n == 1) != (inA && !inB) || n > 1 {
					t.Errorf("%q: in %q %t, in %q %t, in %d of %q", key, a, inA, b, inB, n, rest)
				}
				if in && inA && !inB {
					t.Errorf("%q is in %q, but not in %q, although that is inside", key, a, b)
				}
				if less && (inB && key < a.To || inA && key >= b.From) {
					t.Errorf("%q is not before %q: %q", a, b, key)
				}
			}
		}
	}
}

// eachList calls f with each list of up to n of the ranges.
func eachList(all []api.Range, n int, f func(l []api.Range)) {
	var extend func(l []api.Range)
	extend = func(l []api.Range) {
		f(l)
		if len(l) == n {
			return
		}
		for _, r := range all {
			extend(append(slices.Clone(l), r))
		}
	}
	extend(nil)
}

// P6.6: all lists of up to five ranges with few ends are a cover if they have each end, and what is before all ends, once.
func TestCover(t *testing.T) {
	const ends = 3
	var all []api.Range
	for _, r := range validRanges() {
		if s := spanOf(r); s.low <= ends && (s.high <= ends || r.To == "") {
			all = append(all, r)
		}
	}
	if len(all) != 10 {
		t.Fatalf("%d ranges with the ends %q, want 10", len(all), places[:ends])
	}
	covers := 0
	eachList(all, 5, func(l []api.Range) {
		var times [ends + 1]int
		for _, r := range l {
			s := spanOf(r)
			for i := s.low; i < min(s.high, len(times)); i++ {
				times[i]++
			}
		}
		is := times == [ends + 1]int{1, 1, 1, 1}
		if is {
			covers++
		}
		expectCover(t, l, is, api.OK)
	})
	// 1, 3, 3 and 1 ways to divide all keys at none, one, two or three of the ends, in each order
	if want := 1 + 3*2 + 3*6 + 24; covers != want {
		t.Errorf("%d covers, want %d", covers, want)
	}
}

// P6.6: the edge cases of covers that the chapter names, and ends that are nearly right.
func TestNotCovers(t *testing.T) {
	for _, l := range [][]api.Range{
		{between("0", "")},
		{between("0", "a"), between("a", "")},
		{between("", ""), between("", "")},
		{between("", "0"), between("", "0"), between("0", "")},
		{between("", "c"), between("c", ""), between("c", "")},
		{between("", "c"), between("c", "d")},
		{between("", "c"), between("c", "d"), between("c", "")},
		{between("", "c"), between("b", "")},
		{between("", ""), between("c", "")},
		{between("", "c"), between("", "")},
		{between("", "c"), between("c", ""), between("d", "")},
		{between("", "a"), between("a0", "")},
		{between("", "a0"), between("a", "")},
	} {
		for range 2 {
			expectCover(t, l, false, api.OK)
			slices.Reverse(l)
		}
	}
	expectCover(t, []api.Range{between("", "0"), between("0", "")}, true, api.OK)
	expectCover(t, []api.Range{}, false, api.OK)
}

// manyRanges returns a cover of n ranges, in order.
func manyRanges(n int) []api.Range {
	var l []api.Range
	from := ""
	for i := range n - 1 {
		to := fmt.Sprintf("k%04d", i)
		l = append(l, between(from, to))
		from = to
	}
	return append(l, between(from, ""))
}

// P6.6, R4: 64 ranges and more, in any order; the list stays as it is, and what is behind it is not read.
func TestManyRanges(t *testing.T) {
	r := rand.New(rand.NewSource(66))
	for _, n := range []int{1, 2, 3, 30, most - 1, most} {
		for range 20 {
			l := manyRanges(n)
			r.Shuffle(len(l), func(i, j int) { l[i], l[j] = l[j], l[i] })
			before := slices.Clone(l)
			expectCover(t, l, true, api.OK)
			if !slices.Equal(l, before) {
				t.Errorf("Cover has changed %q to %q", before, l)
			}
			if n > 1 {
				expectCover(t, l[:n-1], false, api.OK)
			}
			more := append(slices.Clone(l), between("z", "a"), between("", ""))
			expectCover(t, more[:n], true, api.OK)
			if more[n] != between("z", "a") || more[n+1] != between("", "") {
				t.Errorf("Cover has changed what is behind the list: %q", more[n:])
			}
			l[r.Intn(n)] = between("z", "a")
			expectCover(t, l, false, api.ErrArg)
		}
	}
	for _, n := range []int{most + 1, most + 2, 2 * most, 256, 256 + 1, 5000} {
		expectCover(t, manyRanges(n), false, api.ErrMany)
		expectCover(t, slices.Repeat([]api.Range{between("z", "a")}, n), false, api.ErrMany)
	}
}

// P6.7, P6.8: each key is in just one range of a cover; a range of it may be exchanged for what Without and Meet return.
func TestExchanged(t *testing.T) {
	r := rand.New(rand.NewSource(68))
	all := validRanges()
	for range 3_000 {
		cover := []api.Range{between("", "")}
		for range r.Intn(12) {
			i, b := r.Intn(len(cover)), all[r.Intn(len(all))]
			a := cover[i]
			parts, e := ranges.Without(a, b)
			both, meet, f := ranges.Meet(a, b)
			if e != api.OK || f != api.OK {
				t.Fatalf("Without and Meet of %q and %q: %d, %d", a, b, e, f)
			}
			if meet {
				parts = append(parts, both)
			}
			cover = append(slices.Delete(cover, i, i+1), parts...)
			r.Shuffle(len(cover), func(i, j int) { cover[i], cover[j] = cover[j], cover[i] })
			expectCover(t, cover, true, api.OK)
		}
		for _, key := range keys() {
			n := 0
			for _, part := range cover {
				if ranges.Has(part, key) {
					n++
				}
			}
			if (n == 1) != names.MatchString(key) || n > 1 {
				t.Errorf("%q is in %d ranges of %q", key, n, cover)
			}
		}
	}
}

// R4, R8: equal calls return equal results, in memory of their own.
func TestSameAgain(t *testing.T) {
	all := func(a, b api.Range, key, text string) (string, []api.Range) {
		s, c := ranges.Text(a)
		r, d := ranges.Parse(text)
		both, meet, e := ranges.Meet(a, b)
		less, f := ranges.Less(a, b)
		in, g := ranges.Inside(a, b)
		is, h := ranges.Cover([]api.Range{a, b})
		l, i := ranges.Without(a, b)
		return fmt.Sprint(ranges.Check(a), ranges.Has(a, key), s, c, r, d, both, meet, e, less, f, in, g, is, h, l, i), l
	}
	first, l := all(between("", ""), between("c", "f"), "d", "[c,f)")
	for i := range l {
		l[i] = between("x", "y")
	}
	wrong, _ := all(between("b", "a"), between("", ""), "A", "[a")
	if again, _ := all(between("", ""), between("c", "f"), "d", "[c,f)"); again != first {
		t.Errorf("%s, then %s", first, again)
	}
	if again, _ := all(between("b", "a"), between("", ""), "A", "[a"); again != wrong {
		t.Errorf("%s, then %s", wrong, again)
	}
}

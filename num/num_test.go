package num_test

import (
	"math"
	"math/big"
	"math/rand"
	"slices"
	"testing"

	"skald/api"
	"skald/num"
)

const (
	most   = api.MaxNum
	lowest = math.MinInt64
	top    = math.MaxInt64
)

// edges returns numbers at which a result may be on the wrong side of a bound, in ascending order:
// small ones, powers of 2 with their neighbours, the limit, and the ends of int64.
func edges() []int64 {
	l := []int64{0, lowest, lowest + 1, 1_000_000_007, -1_000_000_007, 3_037_000_500}
	for shift := range 63 {
		p := int64(1) << shift
		l = append(l, p-1, p, p+1, 1-p, -p, -p-1)
	}
	l = append(l, top, top-1)
	slices.Sort(l)
	return slices.Compact(l)
}

// someNumbers returns n numbers, the same for each seed; most of them are allowed.
func someNumbers(seed int64, n int) []int64 {
	r := rand.New(rand.NewSource(seed))
	l := make([]int64, n)
	for i := range l {
		l[i] = int64(r.Uint64()) >> r.Intn(64)
	}
	return l
}

// isAllowed tells by other means than the package whether a number is allowed.
func isAllowed(n *big.Int) bool {
	return n.CmpAbs(big.NewInt(1<<60)) <= 0
}

// want returns what the package has to return for an exact result; ok tells whether the arguments are allowed.
func want(exact *big.Int, ok bool) (int64, api.Errno) {
	if !ok || !isAllowed(exact) {
		return 0, api.ErrOver
	}
	return exact.Int64(), api.OK
}

// exactSum returns the exact sum of a list, and whether all elements are allowed.
func exactSum(l []int64) (*big.Int, bool) {
	total, ok := new(big.Int), true
	for _, a := range l {
		n := big.NewInt(a)
		ok = ok && isAllowed(n)
		total.Add(total, n)
	}
	return total, ok
}

func expectSum(t *testing.T, l []int64) {
	t.Helper()
	before := slices.Clone(l)
	n, e := num.Sum(l)
	if wantN, wantE := want(exactSum(l)); n != wantN || e != wantE {
		t.Errorf("Sum of %d elements %v: %d, %d; want %d, %d", len(l), l[:min(len(l), 10)], n, e, wantN, wantE)
	}
	if !slices.Equal(l, before) {
		t.Errorf("Sum changed its argument %v to %v", before, l)
	}
}

func repeated(a int64, times int) []int64 {
	return slices.Repeat([]int64{a}, times)
}

func TestLimit(t *testing.T) {
	if most != 1_152_921_504_606_846_976 {
		t.Errorf("MaxNum is %d", most)
	}
}

// P1.1
func TestCheck(t *testing.T) {
	for _, x := range []struct {
		a int64
		e api.Errno
	}{
		{0, api.OK}, {1, api.OK}, {-1, api.OK},
		{1<<60 - 1, api.OK}, {1 << 60, api.OK}, {1<<60 + 1, api.ErrOver},
		{1 - 1<<60, api.OK}, {-1 << 60, api.OK}, {-1<<60 - 1, api.ErrOver},
		{1 << 61, api.ErrOver}, {-1 << 61, api.ErrOver},
		{top, api.ErrOver}, {lowest, api.ErrOver}, {lowest + 1, api.ErrOver},
	} {
		if e := num.Check(x.a); e != x.e {
			t.Errorf("Check(%d) = %d, want %d", x.a, e, x.e)
		}
	}
	for _, a := range edges() {
		if e := num.Check(a); (e == api.OK) != isAllowed(big.NewInt(a)) || e != api.OK && e != api.ErrOver {
			t.Errorf("Check(%d) = %d", a, e)
		}
	}
}

// P1.2, the examples
func TestPairExamples(t *testing.T) {
	for _, x := range []struct {
		name string
		op   func(a, b int64) (int64, api.Errno)
		a, b int64
		n    int64
		e    api.Errno
	}{
		{"Add", num.Add, 1 << 60, -1, 1<<60 - 1, api.OK},
		{"Add", num.Add, 1 << 60, 1, 0, api.ErrOver},
		{"Add", num.Add, 1<<60 + 1, -1, 0, api.ErrOver},
		{"Add", num.Add, -1, 1<<60 + 1, 0, api.ErrOver},
		{"Add", num.Add, top, top, 0, api.ErrOver},
		{"Add", num.Add, lowest, lowest, 0, api.ErrOver},
		{"Add", num.Add, 20, 22, 42, api.OK},
		{"Sub", num.Sub, -1 << 60, 1, 0, api.ErrOver},
		{"Sub", num.Sub, -1 << 60, -1, 1 - 1<<60, api.OK},
		{"Sub", num.Sub, 0, -1 << 60, 1 << 60, api.OK},
		{"Sub", num.Sub, 1<<60 + 1, 1<<60 + 1, 0, api.ErrOver},
		{"Sub", num.Sub, 0, lowest, 0, api.ErrOver},
		{"Sub", num.Sub, lowest, lowest, 0, api.ErrOver},
		{"Sub", num.Sub, 20, 22, -2, api.OK},
		{"Mul", num.Mul, 1 << 30, -1 << 30, -1 << 60, api.OK},
		{"Mul", num.Mul, 1 << 30, 1<<30 + 1, 0, api.ErrOver},
		{"Mul", num.Mul, 1 << 32, 1 << 32, 0, api.ErrOver},
		{"Mul", num.Mul, 1 << 32, -1 << 32, 0, api.ErrOver},
		{"Mul", num.Mul, 1<<32 + 1, 1 << 32, 0, api.ErrOver},
		{"Mul", num.Mul, 0, 1<<60 + 1, 0, api.ErrOver},
		{"Mul", num.Mul, lowest, 0, 0, api.ErrOver},
		{"Mul", num.Mul, lowest, -1, 0, api.ErrOver},
		{"Mul", num.Mul, -1 << 60, -1, 1 << 60, api.OK},
		{"Mul", num.Mul, -6, -7, 42, api.OK},
	} {
		if n, e := x.op(x.a, x.b); n != x.n || e != x.e {
			t.Errorf("%s(%d, %d) = %d, %d; want %d, %d", x.name, x.a, x.b, n, e, x.n, x.e)
		}
	}
}

// P1.2, against exact numbers
func TestPairsExactly(t *testing.T) {
	l := append(edges(), someNumbers(1, 200)...)
	for _, x := range []struct {
		name  string
		op    func(a, b int64) (int64, api.Errno)
		exact func(z, a, b *big.Int) *big.Int
	}{
		{"Add", num.Add, (*big.Int).Add},
		{"Sub", num.Sub, (*big.Int).Sub},
		{"Mul", num.Mul, (*big.Int).Mul},
	} {
		for _, a := range l {
			for _, b := range l {
				p, q := big.NewInt(a), big.NewInt(b)
				wantN, wantE := want(x.exact(new(big.Int), p, q), isAllowed(p) && isAllowed(q))
				if n, e := x.op(a, b); n != wantN || e != wantE {
					t.Fatalf("%s(%d, %d) = %d, %d; want %d, %d", x.name, a, b, n, e, wantN, wantE)
				}
			}
		}
	}
}

// P1.3
func TestSumExamples(t *testing.T) {
	for i, x := range []struct {
		l []int64
		n int64
		e api.Errno
	}{
		{nil, 0, api.OK},
		{[]int64{}, 0, api.OK},
		{[]int64{-7}, -7, api.OK},
		{[]int64{1 << 60, 1 << 60, -1 << 60}, 1 << 60, api.OK},
		{[]int64{-1 << 60, -1 << 60, 1 << 60}, -1 << 60, api.OK},
		{[]int64{1 << 60, 1}, 0, api.ErrOver},
		{[]int64{-1 << 60, -1}, 0, api.ErrOver},
		{[]int64{1<<60 + 1, -1}, 0, api.ErrOver},
		{[]int64{-1, 1, lowest}, 0, api.ErrOver},
		{[]int64{top, -top}, 0, api.ErrOver},
		{repeated(1<<60, 8), 0, api.ErrOver},  // 2^63
		{repeated(1<<60, 16), 0, api.ErrOver}, // 2^64: the low word is 0 again
		{repeated(-1<<60, 16), 0, api.ErrOver},
		{append(repeated(1<<60, 16), 5), 0, api.ErrOver},
		{append(repeated(1<<60, 16), repeated(-1<<60, 16)...), 0, api.OK},
		{append(repeated(-1<<60, 17), repeated(1<<60, 18)...), 1 << 60, api.OK},
		{repeated(0, 10_000), 0, api.OK},
		{repeated(1, 10_000), 10_000, api.OK},
		{append(repeated(1<<60, 5_000), repeated(-1<<60, 5_000)...), 0, api.OK},
		{repeated(1<<60, 10_000), 0, api.ErrOver},
		{repeated(-1<<60, 10_000), 0, api.ErrOver},
		{repeated(0, 10_001), 0, api.ErrMany},
		{repeated(lowest, 10_001), 0, api.ErrMany}, // ErrMany is named before ErrOver
		{repeated(lowest, 10_000), 0, api.ErrOver},
	} {
		if n, e := num.Sum(x.l); n != x.n || e != x.e {
			t.Errorf("list %d: %d, %d; want %d, %d", i, n, e, x.n, x.e)
		}
	}
}

// P1.3, against exact numbers
func TestSumExactly(t *testing.T) {
	l := edges()
	for _, a := range l {
		for _, b := range l {
			expectSum(t, []int64{a, b})
			expectSum(t, []int64{a, b, a})
			expectSum(t, []int64{a, most, b, -most})
		}
	}
	for seed := range int64(200) {
		expectSum(t, someNumbers(seed, int(seed)))
	}
}

// P1.3 and R4: what lies beyond a list's length does not count.
func TestSumCapacity(t *testing.T) {
	l := []int64{1, 2, top, top}
	if n, e := num.Sum(l[:2]); n != 3 || e != api.OK {
		t.Errorf("%d, %d", n, e)
	}
	if !slices.Equal(l, []int64{1, 2, top, top}) {
		t.Errorf("the list is %v", l)
	}
}

// P1.4
func TestWithin(t *testing.T) {
	for _, x := range []struct {
		a, lo, hi int64
		in        bool
	}{
		{5, 5, 5, true}, {5, 6, 4, false}, {5, 4, 6, true},
		{4, 5, 7, false}, {5, 5, 7, true}, {7, 5, 7, true}, {8, 5, 7, false},
		{6, 6, 4, false}, {4, 6, 4, false},
		{lowest, lowest, top, true}, {top, lowest, top, true}, {0, top, lowest, false},
		{lowest, lowest + 1, top, false}, {top, lowest, top - 1, false},
		{lowest, 0, top, false}, {top, lowest, 0, false},
	} {
		if in := num.Within(x.a, x.lo, x.hi); in != x.in {
			t.Errorf("Within(%d, %d, %d) = %t", x.a, x.lo, x.hi, in)
		}
	}
}

// P1.4
func TestClamp(t *testing.T) {
	for _, x := range []struct {
		a, lo, hi int64
		n         int64
		e         api.Errno
	}{
		{9, 1, 5, 5, api.OK}, {-9, 1, 5, 1, api.OK}, {3, 1, 5, 3, api.OK},
		{3, 5, 1, 0, api.ErrArg}, {9, 5, 1, 0, api.ErrArg}, {5, 5, 4, 0, api.ErrArg},
		{1, 1, 5, 1, api.OK}, {5, 1, 5, 5, api.OK}, {0, 1, 5, 1, api.OK}, {6, 1, 5, 5, api.OK},
		{7, 4, 4, 4, api.OK}, {-7, 4, 4, 4, api.OK},
		{lowest, lowest, top, lowest, api.OK}, {top, lowest, top, top, api.OK},
		{lowest, -3, top, -3, api.OK}, {top, lowest, -3, -3, api.OK},
		{0, top, lowest, 0, api.ErrArg}, {0, top, top, top, api.OK}, {0, lowest, lowest, lowest, api.OK},
		{most + 5, most + 1, most + 9, most + 5, api.OK},
	} {
		if n, e := num.Clamp(x.a, x.lo, x.hi); n != x.n || e != x.e {
			t.Errorf("Clamp(%d, %d, %d) = %d, %d; want %d, %d", x.a, x.lo, x.hi, n, e, x.n, x.e)
		}
	}
}

// P1.4: Within and Clamp agree with each other on all numbers.
func TestClampIsWithin(t *testing.T) {
	l := []int64{lowest, lowest + 1, -most - 1, -most, -2, -1, 0, 1, 2, most, most + 1, top - 1, top}
	for _, a := range l {
		for _, lo := range l {
			for _, hi := range l {
				n, e := num.Clamp(a, lo, hi)
				if (e == api.ErrArg) != (lo > hi) || e != api.OK && n != 0 {
					t.Fatalf("Clamp(%d, %d, %d) = %d, %d", a, lo, hi, n, e)
				}
				if e == api.OK && (!num.Within(n, lo, hi) || (n == a) != num.Within(a, lo, hi)) {
					t.Fatalf("Clamp(%d, %d, %d) = %d", a, lo, hi, n)
				}
			}
		}
	}
}

// P1.5
func TestZigZag(t *testing.T) {
	for _, x := range []struct {
		a int64
		u uint64
	}{
		{0, 0}, {-1, 1}, {1, 2}, {-2, 3}, {2, 4},
		{most, 1 << 61}, {-most, 1<<61 - 1}, {most + 1, 1<<61 + 2}, {-most - 1, 1<<61 + 1},
		{1<<62 - 1, 1<<63 - 2}, {-1 << 62, 1<<63 - 1}, {1 << 62, 1 << 63}, {-1<<62 - 1, 1<<63 + 1},
		{top, math.MaxUint64 - 1}, {lowest, math.MaxUint64}, {lowest + 1, math.MaxUint64 - 2},
	} {
		if u := num.Zig(x.a); u != x.u {
			t.Errorf("Zig(%d) = %d, want %d", x.a, u, x.u)
		}
		if a := num.Zag(x.u); a != x.a {
			t.Errorf("Zag(%d) = %d, want %d", x.u, a, x.a)
		}
	}
	for _, a := range append(edges(), someNumbers(2, 1_000)...) {
		exact := new(big.Int).Lsh(big.NewInt(a), 1)
		if a < 0 {
			exact.Not(exact) // -2a - 1
		}
		if u := num.Zig(a); new(big.Int).SetUint64(u).Cmp(exact) != 0 {
			t.Errorf("Zig(%d) = %d, want %d", a, u, exact)
		}
	}
}

// P1.6: sums and products do not depend on the order of their parts.
func TestOrderOfParts(t *testing.T) {
	l := append(edges(), someNumbers(3, 100)...)
	for _, a := range l {
		for _, b := range l {
			s, e := num.Add(a, b)
			if n, f := num.Add(b, a); n != s || f != e {
				t.Fatalf("Add of %d and %d: %d, %d; in the other order: %d, %d", a, b, s, e, n, f)
			}
			m, e := num.Mul(a, b)
			if n, f := num.Mul(b, a); n != m || f != e {
				t.Fatalf("Mul of %d and %d: %d, %d; in the other order: %d, %d", a, b, m, e, n, f)
			}
		}
	}
}

// P1.6: what was added is taken away again.
func TestTakenAway(t *testing.T) {
	l := append(edges(), someNumbers(4, 100)...)
	sums := 0
	for _, a := range l {
		for _, b := range l {
			s, e := num.Add(a, b)
			if e != api.OK {
				continue
			}
			sums++
			if n, f := num.Sub(s, b); n != a || f != api.OK {
				t.Fatalf("Sub of %d + %d and %d: %d, %d", a, b, b, n, f)
			}
		}
	}
	if sums < len(l) {
		t.Errorf("only %d sums are allowed", sums)
	}
}

// P1.6: products distribute over sums, as far as nothing is beyond.
func TestDistribute(t *testing.T) {
	l := []int64{0, 1, -1, 2, -3, 1 << 29, 1 << 30, -1 << 30, 1<<30 - 1, 1 << 31, -1 << 32, 1 << 59, -1 << 59, most, -most, most - 1}
	l = append(l, someNumbers(5, 20)...)
	whole := 0
	for _, a := range l {
		for _, b := range l {
			for _, c := range l {
				sum, e1 := num.Add(b, c)
				left, e2 := num.Mul(a, sum)
				ab, e3 := num.Mul(a, b)
				ac, e4 := num.Mul(a, c)
				right, e5 := num.Add(ab, ac)
				if e1 != api.OK || e2 != api.OK || e3 != api.OK || e4 != api.OK {
					continue
				}
				whole++
				if left != right || e5 != api.OK {
					t.Fatalf("%d * (%d + %d) is %d, and in parts %d, %d", a, b, c, left, right, e5)
				}
			}
		}
	}
	if whole < 100 {
		t.Errorf("only %d cases", whole)
	}
}

// P1.7: a list's sum is that of its parts, added, if these are allowed.
func TestSumOfParts(t *testing.T) {
	lists := [][]int64{
		{},
		{5},
		{most, -most, most, -1},
		{most, most, -most, -most, 3},
		{most, 1, -1},
		{-most, 7, most, -most},
		repeated(most/10_000, 10_000),
		someNumbers(6, 50),
	}
	compared := 0
	for i, l := range lists {
		whole, e := num.Sum(l)
		for cut := range len(l) + 1 {
			first, e1 := num.Sum(l[:cut])
			second, e2 := num.Sum(l[cut:])
			if e1 != api.OK || e2 != api.OK {
				continue
			}
			compared++
			if n, f := num.Add(first, second); n != whole || f != e {
				t.Fatalf("list %d, cut at %d: %d, %d; want %d, %d", i, cut, n, f, whole, e)
			}
		}
	}
	if compared < 10_000 {
		t.Errorf("only %d cases", compared)
	}
}

// P1.7: a list's sum does not depend on the order of its elements.
func TestSumOrder(t *testing.T) {
	r := rand.New(rand.NewSource(7))
	for i, l := range [][]int64{
		{most, most, -most, 1, -1, 2, -2},
		{most, most, -most, 1},
		append(repeated(most, 20), append(repeated(-most, 20), 9, 8, 7)...),
		{most + 1, 3, -3},
		append(repeated(most, 5_000), repeated(-most, 5_000)...),
		repeated(7, 10_001),
	} {
		whole, e := num.Sum(l)
		for range 50 {
			r.Shuffle(len(l), func(i, j int) { l[i], l[j] = l[j], l[i] })
			if n, f := num.Sum(l); n != whole || f != e {
				t.Fatalf("list %d: %d, %d; want %d, %d", i, n, f, whole, e)
			}
		}
	}
}

// P1.8: each number has just one Zig: the zigs of -n .. n-1 are 0 .. 2n-1, and Zag leads back.
func TestZigsAreUnique(t *testing.T) {
	const n = 1_000
	seen := [2 * n]bool{}
	for a := int64(-n); a < n; a++ {
		u := num.Zig(a)
		if u >= 2*n || seen[u] {
			t.Fatalf("Zig(%d) = %d", a, u)
		}
		seen[u] = true
	}
	for _, a := range append(edges(), someNumbers(8, 1_000)...) {
		u := num.Zig(a)
		for _, v := range []uint64{u - 1, u, u + 1, u ^ 1<<63} {
			if b := num.Zag(v); num.Zig(b) != v || (b == a) != (v == u) {
				t.Fatalf("Zag(%d) = %d, whose Zig is %d", v, b, num.Zig(b))
			}
		}
	}
}

// P1.8: numbers nearer to 0 have smaller zigs.
func TestZigsGrow(t *testing.T) {
	l := append(edges(), someNumbers(9, 100)...)
	for _, a := range l {
		for _, b := range l {
			if big.NewInt(a).CmpAbs(big.NewInt(b)) < 0 && num.Zig(a) >= num.Zig(b) {
				t.Fatalf("Zig(%d) = %d, Zig(%d) = %d", a, num.Zig(a), b, num.Zig(b))
			}
		}
	}
}

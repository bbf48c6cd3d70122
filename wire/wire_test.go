package wire_test

import (
	"bytes"
	"math"
	"math/big"
	"math/bits"
	"math/rand"
	"slices"
	"strings"
	"testing"

	"skald/api"
	"skald/wire"
)

// value is a value of one of the four kinds; the fields of the other kinds are zero. So tests can go through all kinds.
type value struct {
	kind  int
	uint  uint64
	int   int64
	text  string
	truth bool
}

// The kinds of values.
const (
	uints = iota
	ints
	texts
	bools
	kinds // how many there are
)

var kindNames = [kinds]string{"Uint", "Int", "Text", "Bool"}

func write(w *wire.Writer, v value) {
	switch v.kind {
	case uints:
		w.Uint(v.uint)
	case ints:
		w.Int(v.int)
	case texts:
		w.Text(v.text)
	case bools:
		w.Bool(v.truth)
	}
}

func read(r *wire.Reader, kind int) value {
	v := value{kind: kind}
	switch kind {
	case uints:
		v.uint = r.Uint()
	case ints:
		v.int = r.Int()
	case texts:
		v.text = r.Text()
	case bools:
		v.truth = r.Bool()
	}
	return v
}

// written returns the bytes that values are written as.
func written(l ...value) []byte {
	w := wire.New()
	for _, v := range l {
		write(w, v)
	}
	return w.Bytes()
}

// digits returns the bytes of a number as the chapter defines them, by exact divisions.
func digits(n *big.Int) []byte {
	base, left, digit := big.NewInt(128), new(big.Int).Set(n), new(big.Int)
	var b []byte
	for {
		left.DivMod(left, base, digit)
		b = append(b, byte(digit.Int64())+128)
		if left.Sign() == 0 {
			b[len(b)-1] -= 128
			return b
		}
	}
}

// defined returns the bytes of a value as the chapter defines them.
func defined(v value) []byte {
	switch v.kind {
	case uints:
		return digits(new(big.Int).SetUint64(v.uint))
	case ints:
		n := big.NewInt(v.int)
		n.Lsh(n, 1)
		if v.int < 0 {
			n.Not(n) // -2a - 1
		}
		return digits(n)
	case texts:
		return append(digits(big.NewInt(int64(len(v.text)))), v.text...)
	}
	if v.truth {
		return []byte{1}
	}
	return []byte{0}
}

// numbers returns numbers of each size: powers of 2 with their neighbours, small ones, and some others.
func numbers() []uint64 {
	var l []uint64
	for n := range uint64(300) {
		l = append(l, n)
	}
	for shift := range 64 {
		l = append(l, 1<<shift-1, 1<<shift, 1<<shift+1)
	}
	r := rand.New(rand.NewSource(1))
	for range 500 {
		l = append(l, r.Uint64()>>r.Intn(64))
	}
	return append(l, math.MaxUint64-1, math.MaxUint64)
}

// someTexts returns texts whose lengths have one byte, two and three, and which are not all of letters.
func someTexts() []string {
	l := []string{"", "a", "ab", "\x00", "\xff", "\x80\x00", "é", "\xc3", "one two\n"}
	for _, n := range []int{127, 128, 129, 300, 16_383, 16_384, api.MaxText - 1, api.MaxText} {
		l = append(l, strings.Repeat("x", n))
	}
	return l
}

// someValues returns n values of all kinds, the same for each seed.
func someValues(seed int64, n int) []value {
	r := rand.New(rand.NewSource(seed))
	l := make([]value, n)
	for i := range l {
		l[i].kind = r.Intn(kinds)
		switch l[i].kind {
		case uints:
			l[i].uint = r.Uint64() >> r.Intn(64)
		case ints:
			l[i].int = int64(r.Uint64()) >> r.Intn(64)
		case texts:
			b := make([]byte, r.Intn(10)*r.Intn(20))
			r.Read(b)
			l[i].text = string(b)
		case bools:
			l[i].truth = r.Intn(2) == 1
		}
	}
	return l
}

func expectBytes(t *testing.T, w *wire.Writer, want []byte) {
	t.Helper()
	if b := w.Bytes(); !bytes.Equal(b, want) || w.Len() != len(want) {
		t.Errorf("%d bytes (Len %d) beginning with %v; want %d bytes beginning with %v", len(b), w.Len(), b[:min(len(b), 20)], len(want), want[:min(len(want), 20)])
	}
}

// expectFailed checks that a reader has failed, and stays so whatever is called.
func expectFailed(t *testing.T, r *wire.Reader, what string) {
	t.Helper()
	for range 2 {
		if r.Left() != 0 || r.End() != api.ErrForm {
			t.Errorf("%s: Left %d, End %d", what, r.Left(), r.End())
		}
		for kind := range kinds {
			if v := read(r, kind); v != (value{kind: kind}) {
				t.Errorf("%s: %s of a reader that has failed: %v", what, kindNames[kind], v)
			}
		}
		r.Fail()
	}
	if r.Left() != 0 || r.End() != api.ErrForm {
		t.Errorf("%s, later: Left %d, End %d", what, r.Left(), r.End())
	}
}

// expectFailure checks that a value of a kind can't be read from bytes.
func expectFailure(t *testing.T, kind int, b []byte) {
	t.Helper()
	r := wire.Read(b)
	if v := read(r, kind); v != (value{kind: kind}) {
		t.Errorf("%s of %d bytes beginning with %v: %v", kindNames[kind], len(b), b[:min(len(b), 12)], v)
	}
	expectFailed(t, r, kindNames[kind])
}

// P3.1
func TestNew(t *testing.T) {
	w := wire.New()
	expectBytes(t, w, nil)
	w.Uint(5)
	expectBytes(t, w, []byte{5})
	expectBytes(t, wire.New(), nil)
}

// P3.2, the examples and numbers at which the number of bytes changes
func TestWriteExamples(t *testing.T) {
	for _, x := range []struct {
		v value
		b []byte
	}{
		{value{uint: 0}, []byte{0}},
		{value{uint: 1}, []byte{1}},
		{value{uint: 127}, []byte{127}},
		{value{uint: 128}, []byte{128, 1}},
		{value{uint: 300}, []byte{172, 2}},
		{value{uint: 16_383}, []byte{255, 127}},
		{value{uint: 16_384}, []byte{128, 128, 1}},
		{value{uint: 1<<63 - 1}, []byte{255, 255, 255, 255, 255, 255, 255, 255, 127}},
		{value{uint: 1 << 63}, []byte{128, 128, 128, 128, 128, 128, 128, 128, 128, 1}},
		{value{uint: math.MaxUint64}, []byte{255, 255, 255, 255, 255, 255, 255, 255, 255, 1}},
		{value{kind: ints, int: 0}, []byte{0}},
		{value{kind: ints, int: -1}, []byte{1}},
		{value{kind: ints, int: 1}, []byte{2}},
		{value{kind: ints, int: -64}, []byte{127}},
		{value{kind: ints, int: 64}, []byte{128, 1}},
		{value{kind: ints, int: math.MaxInt64}, []byte{254, 255, 255, 255, 255, 255, 255, 255, 255, 1}},
		{value{kind: ints, int: math.MinInt64}, []byte{255, 255, 255, 255, 255, 255, 255, 255, 255, 1}},
		{value{kind: texts, text: ""}, []byte{0}},
		{value{kind: texts, text: "ab"}, []byte{2, 97, 98}},
		{value{kind: texts, text: "\x00\xff"}, []byte{2, 0, 255}},
		{value{kind: bools, truth: true}, []byte{1}},
		{value{kind: bools, truth: false}, []byte{0}},
	} {
		w := wire.New()
		write(w, x.v)
		expectBytes(t, w, x.b)
	}
}

// P3.2: the bytes are those of the definition; a writer takes texts of any length.
func TestWriteByDefinition(t *testing.T) {
	for _, n := range numbers() {
		for _, v := range []value{{uint: n}, {kind: ints, int: int64(n)}, {kind: ints, int: -int64(n)}} {
			if b := written(v); !bytes.Equal(b, defined(v)) {
				t.Errorf("%s of %d or %d: %v, want %v", kindNames[v.kind], v.uint, v.int, b, defined(v))
			}
		}
	}
	for _, s := range append(someTexts(), strings.Repeat("y", api.MaxText+1), strings.Repeat("z", 3<<20)) {
		w, v := wire.New(), value{kind: texts, text: s}
		write(w, v)
		expectBytes(t, w, defined(v))
	}
}

// P3.2 and P3.9: each value is added behind what was written before.
func TestWriteBehind(t *testing.T) {
	w := wire.New()
	var all []byte
	for _, v := range someValues(1, 1_000) {
		write(w, v)
		all = append(all, defined(v)...)
		if !bytes.Equal(w.Bytes(), all) || w.Len() != len(all) {
			t.Fatalf("%s: %d bytes, want %d", kindNames[v.kind], w.Len(), len(all))
		}
	}
}

// P3.9: the bytes of a number are one more for each 7 bits.
func TestSizes(t *testing.T) {
	for _, n := range numbers() {
		want := max(1, (bits.Len64(n)+6)/7)
		if size := len(written(value{uint: n})); size != want {
			t.Errorf("%d has %d bytes, want %d", n, size, want)
		}
	}
	for size := 1; size < 10; size++ {
		last := uint64(1)<<(7*size) - 1
		if a, b := len(written(value{uint: last})), len(written(value{uint: last + 1})); a != size || b != size+1 {
			t.Errorf("the numbers %d and %d have %d and %d bytes, want %d and %d", last, last+1, a, b, size, size+1)
		}
	}
}

// P3.1 and R4: Bytes are new memory, to which nothing is added later.
func TestBytesAreNew(t *testing.T) {
	w := wire.New()
	w.Text("ab")
	first, second := w.Bytes(), w.Bytes()
	first[1] = 'z'
	_ = append(first, 9, 9, 9)
	if !bytes.Equal(second, []byte{2, 97, 98}) {
		t.Errorf("the second result is %v", second)
	}
	expectBytes(t, w, []byte{2, 97, 98})
	w.Uint(7)
	_ = append(second[:3:3], 8)
	expectBytes(t, w, []byte{2, 97, 98, 7})
	if !bytes.Equal(first, []byte{2, 122, 98}) || !bytes.Equal(second, []byte{2, 97, 98}) {
		t.Errorf("the results are %v and %v", first, second)
	}
}

// P3.3
func TestRead(t *testing.T) {
	r := wire.Read([]byte{172, 2, 7, 0, 2, 97, 98, 1})
	for i, x := range []struct {
		kind int
		v    value
		left int
	}{
		{uints, value{uint: 300}, 6},
		{ints, value{kind: ints, int: -4}, 5},
		{uints, value{uint: 0}, 4},
		{texts, value{kind: texts, text: "ab"}, 1},
		{bools, value{kind: bools, truth: true}, 0},
	} {
		if e := r.End(); e != api.ErrForm {
			t.Errorf("End before value %d: %d", i, e)
		}
		if v := read(r, x.kind); v != x.v || r.Left() != x.left {
			t.Errorf("value %d: %v, Left %d; want %v, %d", i, v, r.Left(), x.v, x.left)
		}
	}
	if e := r.End(); e != api.OK || r.Left() != 0 {
		t.Errorf("End: %d, Left %d", e, r.Left())
	}
}

// P3.3: a reader has all of its bytes at first, and has not failed.
func TestReadAtFirst(t *testing.T) {
	for n := range 20 {
		r := wire.Read(make([]byte, n))
		if r.Left() != n || (r.End() == api.OK) != (n == 0) {
			t.Errorf("%d bytes: Left %d, End %d", n, r.Left(), r.End())
		}
		for i := range n {
			if v := r.Uint(); v != 0 || r.Left() != n-1-i {
				t.Errorf("number %d of %d: %d, Left %d", i, n, v, r.Left())
			}
		}
		if r.End() != api.OK {
			t.Errorf("End of %d numbers: %d", n, r.End())
		}
	}
}

// P3.3 and R4: a reader keeps its own bytes, changes none, and reads none behind the length.
func TestReadCopies(t *testing.T) {
	b := []byte{3, 97, 98, 99, 172, 2, 5}
	r := wire.Read(b)
	clear(b)
	if s, n := r.Text(), r.Uint(); s != "abc" || n != 300 || r.Left() != 1 {
		t.Errorf("%q, %d, Left %d", s, n, r.Left())
	}
	b = []byte{128, 1, 97, 98}
	before := slices.Clone(b)
	expectFailure(t, uints, b[:1])
	expectFailure(t, texts, append(b[:0:0], 2, 97)[:1])
	if one := wire.Read(b[:2]); one.Uint() != 128 || one.End() != api.OK {
		t.Errorf("End: %d", one.End())
	}
	if !bytes.Equal(b, before) {
		t.Errorf("the bytes are %v", b)
	}
}

// P3.4, the examples and other bytes with which no number begins
func TestNoNumbers(t *testing.T) {
	for _, b := range [][]byte{
		nil, {},
		{128}, {255}, {128, 128}, {172},
		{128, 0}, {129, 0}, {255, 0}, {128, 128, 0}, {255, 128, 0}, {172, 130, 0},
		{128, 0, 5}, {128, 0, 1},
		{128, 128, 128, 128, 128, 128, 128, 128, 128},
		{128, 128, 128, 128, 128, 128, 128, 128, 128, 0},
		{255, 255, 255, 255, 255, 255, 255, 255, 255, 0},
		{255, 255, 255, 255, 255, 255, 255, 255, 255, 2},
		{128, 128, 128, 128, 128, 128, 128, 128, 128, 3},
		{128, 128, 128, 128, 128, 128, 128, 128, 128, 127},
		{128, 128, 128, 128, 128, 128, 128, 128, 128, 128},
		{128, 128, 128, 128, 128, 128, 128, 128, 128, 129},
		{128, 128, 128, 128, 128, 128, 128, 128, 128, 128, 0},
		{128, 128, 128, 128, 128, 128, 128, 128, 128, 128, 1},
		{255, 255, 255, 255, 255, 255, 255, 255, 255, 129, 1},
		bytes.Repeat([]byte{255}, 10), bytes.Repeat([]byte{128}, 10),
		bytes.Repeat([]byte{255}, 11), bytes.Repeat([]byte{128}, 100),
	} {
		for kind := range kinds {
			expectFailure(t, kind, b)
		}
	}
}

// P3.4: in the tenth byte only a 1 is right.
func TestTenthByte(t *testing.T) {
	for x := range 256 {
		for _, first := range []byte{128, 255, 170} {
			b := append(bytes.Repeat([]byte{first}, 9), byte(x), 0)
			if x != 1 {
				expectFailure(t, uints, b)
				expectFailure(t, ints, b)
				continue
			}
			r := wire.Read(b)
			if n := r.Uint(); !bytes.Equal(defined(value{uint: n}), b[:10]) || r.Left() != 1 {
				t.Errorf("%v: %d, Left %d", b, n, r.Left())
			}
		}
	}
}

// P3.4: a text needs all of its bytes, and must not have more than MaxText.
func TestReadTexts(t *testing.T) {
	for _, s := range someTexts() {
		b := defined(value{kind: texts, text: s})
		r := wire.Read(append(slices.Clone(b), 77))
		if again := r.Text(); again != s || r.Left() != 1 || r.Uint() != 77 {
			t.Errorf("a text of %d bytes: %d bytes, Left %d", len(s), len(again), r.Left())
		}
		for _, cut := range []int{0, len(b) / 2, len(b) - 1} {
			expectFailure(t, texts, b[:cut])
		}
	}
	expectFailure(t, texts, []byte{3, 97, 98})
	for _, n := range []int{api.MaxText + 1, api.MaxText + 128, 1 << 20} {
		b := defined(value{kind: texts, text: strings.Repeat("x", n)})
		expectFailure(t, texts, b)
		expectFailure(t, texts, append(b, b...))
	}
	for _, n := range []uint64{api.MaxText, api.MaxText + 1, 1 << 31, 1<<32 + 1, 1<<63 - 1, 1 << 63, 1<<63 + 1, math.MaxUint64 - 1, math.MaxUint64} {
		expectFailure(t, texts, append(defined(value{uint: n}), "ab"...))
	}
}

// P3.4 and R4: a text that was read is not changed by what is read later.
func TestTextsAreNew(t *testing.T) {
	r := wire.Read([]byte{2, 97, 98, 2, 99, 100})
	a, b := r.Text(), r.Text()
	r.Fail()
	if a != "ab" || b != "cd" {
		t.Errorf("%q, %q", a, b)
	}
}

// P3.4: of all numbers, only 0 and 1 are truth values.
func TestReadBools(t *testing.T) {
	for _, n := range numbers() {
		b := defined(value{uint: n})
		if n > 1 {
			expectFailure(t, bools, b)
			continue
		}
		r := wire.Read(b)
		if truth := r.Bool(); truth != (n == 1) || r.End() != api.OK {
			t.Errorf("Bool of %d: %t, End %d", n, truth, r.End())
		}
	}
	r := wire.Read([]byte{172, 2, 7, 1})
	if n, left := r.Uint(), r.Left(); n != 300 || left != 2 {
		t.Errorf("%d, Left %d", n, left)
	}
	if r.Bool() {
		t.Errorf("7 is no truth value")
	}
	expectFailed(t, r, "Bool of 7")
}

// P3.4 and P3.10: a value that can't be read makes the reader fail, though others could be read instead of it.
func TestFailuresStay(t *testing.T) {
	for kind, b := range [kinds][]byte{
		uints: {1, 128, 0, 1, 1},
		ints:  {1, 128, 0, 1, 1},
		texts: {1, 9, 1, 1},
		bools: {1, 2, 1, 1},
	} {
		r := wire.Read(b)
		if r.Uint() != 1 || r.Left() != len(b)-1 {
			t.Errorf("Left %d", r.Left())
		}
		if v := read(r, kind); v != (value{kind: kind}) {
			t.Errorf("%s: %v", kindNames[kind], v)
		}
		expectFailed(t, r, kindNames[kind])
	}
}

// P3.5 and P3.10
func TestFail(t *testing.T) {
	for _, b := range [][]byte{nil, {0}, {1, 1, 97}, {128}} {
		r := wire.Read(b)
		r.Fail()
		expectFailed(t, r, "Fail at first")
	}
	r := wire.Read([]byte{1, 0, 1, 1})
	if !r.Bool() || r.Bool() || r.Left() != 2 {
		t.Errorf("Left %d", r.Left())
	}
	r.Fail()
	expectFailed(t, r, "Fail later")
	r = wire.Read([]byte{1})
	if !r.Bool() || r.End() != api.OK {
		t.Errorf("End %d", r.End())
	}
	r.Fail()
	expectFailed(t, r, "Fail at the end")
}

// P3.6
func TestEnd(t *testing.T) {
	for _, b := range [][]byte{nil, {}} {
		if e := wire.Read(b).End(); e != api.OK {
			t.Errorf("End of no bytes: %d", e)
		}
	}
	r := wire.Read([]byte{7, 5})
	for _, left := range []int{2, 1} {
		if r.End() != api.ErrForm || r.End() != api.ErrForm || r.Left() != left {
			t.Errorf("End %d, Left %d, want %d", r.End(), r.Left(), left)
		}
		r.Uint()
	}
	if r.End() != api.OK || r.End() != api.OK {
		t.Errorf("End %d", r.End())
	}
	r.Uint()
	expectFailed(t, r, "a number behind the end")
}

// P3.7: values are read back in the order in which they were written.
func TestThereAndBack(t *testing.T) {
	var lists [][]value
	var all []value
	for _, n := range numbers() {
		all = append(all, value{uint: n}, value{kind: ints, int: int64(n)}, value{kind: ints, int: -int64(n)})
	}
	for _, s := range someTexts() {
		all = append(all, value{kind: texts, text: s}, value{kind: bools, truth: len(s)%2 == 0})
	}
	lists = append(lists, nil, all)
	for seed := range int64(200) {
		lists = append(lists, someValues(seed, int(seed)))
	}
	for i, l := range lists {
		r := wire.Read(written(l...))
		for k, v := range l {
			if again := read(r, v.kind); again != v {
				t.Fatalf("list %d, value %d (%s) is read as another one", i, k, kindNames[v.kind])
			}
		}
		if r.Left() != 0 || r.End() != api.OK {
			t.Errorf("list %d: Left %d, End %d", i, r.Left(), r.End())
		}
	}
}

// P3.7: if bytes are missing at the end, the reader fails; with one byte more, End is ErrForm.
func TestMissingAndMore(t *testing.T) {
	for seed := range int64(60) {
		l := someValues(seed, 1+int(seed%8))
		b := written(l...)
		for cut := range b {
			r := wire.Read(b[:cut])
			for _, v := range l {
				read(r, v.kind)
			}
			expectFailed(t, r, "bytes are missing")
		}
		for x := range 256 {
			r := wire.Read(append(slices.Clone(b), byte(x)))
			for k, v := range l {
				if read(r, v.kind) != v {
					t.Errorf("a byte %d more, list %d: value %d is another one", x, seed, k)
				}
			}
			if r.Left() != 1 || r.End() != api.ErrForm {
				t.Errorf("a byte %d more: Left %d, End %d", x, r.Left(), r.End())
			}
		}
	}
}

// expectOneWay reads values of some kinds from bytes, and writes them again. It tells whether End was OK.
func expectOneWay(t *testing.T, b []byte, order ...int) bool {
	t.Helper()
	r := wire.Read(b)
	var l []value
	for _, kind := range order {
		l = append(l, read(r, kind))
	}
	if r.End() != api.OK {
		return false
	}
	if again := written(l...); !bytes.Equal(again, b) {
		t.Fatalf("kinds %v of %v: written as %v", order, b, again)
	}
	return true
}

// P3.8: of all bytes up to two, and of longer ones at the edges, each is the only way to write its values.
func TestOneWay(t *testing.T) {
	edges := []byte{0, 1, 2, 127, 128, 129, 255}
	lists := [][]byte{nil}
	for x := range 256 {
		lists = append(lists, []byte{byte(x)})
		for y := range 256 {
			lists = append(lists, []byte{byte(x), byte(y)})
		}
	}
	for _, x := range edges {
		for _, y := range edges {
			for _, z := range edges {
				l := []byte{x, y, z}
				lists = append(lists, l, append(l, 0), append(l, 1), append(bytes.Repeat([]byte{128 | x}, 7), l...), append(bytes.Repeat([]byte{128 | x}, 8), l...))
			}
		}
	}
	good := 0
	for _, b := range lists {
		for first := range kinds {
			if expectOneWay(t, b, first) {
				good++
			}
			for second := range kinds {
				if expectOneWay(t, b, first, second) {
					good++
				}
			}
		}
	}
	// One number: 128 of one byte and 127 * 128 of two; twice, for Uint and Int. There are more of several values.
	if good < 2*(128+127*128) {
		t.Errorf("only %d lists of bytes were read", good)
	}
}

// P3.8: bytes that differ at one place are other values, or none.
func TestOneWayChanged(t *testing.T) {
	r := rand.New(rand.NewSource(2))
	good := 0
	for seed := range int64(300) {
		l := someValues(seed, 1+int(seed%12))
		var order []int
		for _, v := range l {
			order = append(order, v.kind)
		}
		b := written(l...)
		if !expectOneWay(t, b, order...) {
			t.Errorf("list %d is not read", seed)
		}
		for range 30 {
			changed := slices.Clone(b)
			changed[r.Intn(len(b))] ^= byte(1 << r.Intn(8))
			if expectOneWay(t, changed, order...) {
				good++
			}
		}
	}
	if good < 1_000 {
		t.Errorf("only %d changed lists were read", good)
	}
}

// R2: a writer that is nil, or was not made by New, takes nothing.
func TestNoWriter(t *testing.T) {
	for i, w := range []*wire.Writer{nil, {}, new(wire.Writer)} {
		for _, v := range []value{{uint: 5}, {uint: 300}, {kind: ints, int: -5}, {kind: texts}, {kind: texts, text: "ab"}, {kind: bools}, {kind: bools, truth: true}} {
			write(w, v)
			if b := w.Bytes(); b != nil || w.Len() != 0 {
				t.Errorf("writer %d, %s: %v, Len %d", i, kindNames[v.kind], b, w.Len())
			}
		}
	}
}

// R2: a reader that is nil, or was not made by Read, has nothing, and can't fail.
func TestNoReader(t *testing.T) {
	for i, r := range []*wire.Reader{nil, {}, new(wire.Reader)} {
		for range 2 {
			for kind := range kinds {
				if v := read(r, kind); v != (value{kind: kind}) {
					t.Errorf("reader %d, %s: %v", i, kindNames[kind], v)
				}
			}
			if r.Left() != 0 || r.End() != api.ErrNil {
				t.Errorf("reader %d: Left %d, End %d", i, r.Left(), r.End())
			}
			r.Fail()
		}
	}
}

// R8: writers and readers do not depend on each other.
func TestApart(t *testing.T) {
	l := someValues(3, 100)
	v, w := wire.New(), wire.New()
	for i := range l {
		write(v, l[i])
		write(w, l[len(l)-1-i])
		write(v, l[i])
	}
	b := v.Bytes()
	q, r := wire.Read(b), wire.Read(b)
	for i := range l {
		for range 2 {
			if again := read(q, l[i].kind); again != l[i] {
				t.Fatalf("value %d of the first reader: %v, want %v", i, again, l[i])
			}
		}
		if i < 50 {
			read(r, l[i].kind)
			read(r, l[i].kind)
		} else {
			r.Fail()
		}
	}
	if q.End() != api.OK || r.End() != api.ErrForm {
		t.Errorf("End %d and %d", q.End(), r.End())
	}
	slices.Reverse(l)
	expectBytes(t, w, written(l...))
}

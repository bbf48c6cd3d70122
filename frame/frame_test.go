package frame_test

import (
	"bytes"
	"encoding/binary"
	"hash/crc32"
	"math"
	"math/rand"
	"slices"
	"strings"
	"testing"

	"skald/api"
	"skald/crc"
	"skald/frame"
)

const (
	headSize  = 8
	maxJoined = 10_000
)

// withHead returns eight bytes that say a length and a checksum, and the bytes behind them, whether they fit or not.
func withHead(length, sum uint32, behind []byte) []byte {
	b := binary.BigEndian.AppendUint32(nil, length)
	b = binary.BigEndian.AppendUint32(b, sum)
	return append(b, behind...)
}

// defined returns a content's record as the chapter defines it, without the package.
func defined(content []byte) []byte {
	return withHead(uint32(len(content)), crc32.ChecksumIEEE(content), content)
}

// definedAll returns the records of several contents, and the places at which each begins; the last place is the end.
func definedAll(l [][]byte) ([]byte, []int) {
	var b []byte
	places := []int{0}
	for _, content := range l {
		b = append(b, defined(content)...)
		places = append(places, len(b))
	}
	return b, places
}

// someBytes returns n bytes, the same for each seed.
func someBytes(seed int64, n int) []byte {
	b := make([]byte, n)
	rand.New(rand.NewSource(seed)).Read(b)
	return b
}

// contents returns a list of n short contents, the same for each seed; some of them are empty.
func contents(seed int64, n int) [][]byte {
	r := rand.New(rand.NewSource(seed))
	l := make([][]byte, n)
	for i := range l {
		l[i] = someBytes(r.Int63(), r.Intn(4)*r.Intn(9))
	}
	return l
}

// texts returns a list of contents.
func texts(l ...string) [][]byte {
	b := make([][]byte, len(l))
	for i, s := range l {
		b[i] = []byte(s)
	}
	return b
}

// joined returns the records of contents that can be joined.
func joined(t *testing.T, l [][]byte) []byte {
	t.Helper()
	b, e := frame.Join(l)
	if e != api.OK {
		t.Fatalf("Join of %d contents: %d", len(l), e)
	}
	return b
}

// expectJoin checks the records of contents that can be joined.
func expectJoin(t *testing.T, l [][]byte) {
	t.Helper()
	want, _ := definedAll(l)
	b, e := frame.Join(l)
	if e != api.OK || !bytes.Equal(b, want) {
		t.Errorf("Join of %d contents: %d bytes beginning with %x, %d; want %d bytes", len(l), len(b), b[:min(len(b), 20)], e, len(want))
	}
}

// expectRecord checks that a record stands at a place, and what is behind it.
func expectRecord(t *testing.T, b []byte, at int, content []byte) {
	t.Helper()
	f, next, e := frame.Next(b, at)
	if e != api.OK || f.At != at || !bytes.Equal(f.Content, content) || next != at+headSize+len(content) {
		t.Errorf("Next at %d of %d bytes: at %d %d bytes %x, %d, %d; want %d bytes %x", at, len(b), f.At, len(f.Content), f.Content[:min(len(f.Content), 20)], next, e, len(content), content[:min(len(content), 20)])
	}
}

// expectNone checks that no record is whole at a place, and that the other results are zero.
func expectNone(t *testing.T, b []byte, at int, want api.Errno) {
	t.Helper()
	f, next, e := frame.Next(b, at)
	if e != want || f.At != 0 || len(f.Content) != 0 || next != 0 {
		t.Errorf("Next at %d of %d bytes: at %d %d bytes, %d, %d; want the error %d", at, len(b), f.At, len(f.Content), next, e, want)
	}
}

// expectAll checks what All, Check and Cut (of all bytes) find in some bytes.
func expectAll(t *testing.T, b []byte, want [][]byte, wantE api.Errno) {
	t.Helper()
	_, places := definedAll(want)
	end := places[len(want)]
	l, stop := frame.All(b)
	if len(l) != len(want) || stop != end {
		t.Fatalf("All of %d bytes: %d records up to %d, want %d up to %d", len(b), len(l), stop, len(want), end)
	}
	for i, f := range l {
		if f.At != places[i] || !bytes.Equal(f.Content, want[i]) {
			t.Fatalf("All of %d bytes, record %d: at %d %x, want at %d %x", len(b), i, f.At, f.Content, places[i], want[i])
		}
	}
	if e := frame.Check(b); e != wantE {
		t.Errorf("Check of %d bytes: %d, want %d", len(b), e, wantE)
	}
	if n, e := frame.Cut(b, len(b)); n != len(want) || e != api.OK {
		t.Errorf("Cut of %d bytes: %d, %d, want %d", len(b), n, e, len(want))
	}
}

// P4.1, the examples and contents of each size
func TestMake(t *testing.T) {
	for _, x := range []struct{ content, record string }{
		{"", "\x00\x00\x00\x00\x00\x00\x00\x00"},
		{"123456789", "\x00\x00\x00\x09\xcb\xf4\x39\x26123456789"},
		{"a", "\x00\x00\x00\x01\xe8\xb7\xbe\x43a"},
		{"\x00", "\x00\x00\x00\x01\xd2\x02\xef\x8d\x00"},
		{"\xff\xff\xff\xff", "\x00\x00\x00\x04\xff\xff\xff\xff\xff\xff\xff\xff"},
	} {
		if b, e := frame.Make([]byte(x.content)); string(b) != x.record || e != api.OK {
			t.Errorf("Make(%q) = %x, %d; want %x", x.content, b, e, x.record)
		}
	}
	if b, e := frame.Make(nil); string(b) != "\x00\x00\x00\x00\x00\x00\x00\x00" || e != api.OK {
		t.Errorf("Make(nil) = %x, %d", b, e)
	}
	for _, n := range []int{0, 1, 2, 127, 128, 254, 255, 256, 257, 4_660, 32_768, api.MaxText - 1, api.MaxText} {
		content := someBytes(int64(n), n)
		if b, e := frame.Make(content); !bytes.Equal(b, defined(content)) || e != api.OK {
			t.Errorf("Make of %d bytes: %d bytes beginning with %x, %d", n, len(b), b[:min(len(b), 20)], e)
		}
	}
}

// P4.1
func TestMakeLong(t *testing.T) {
	for _, n := range []int{api.MaxText + 1, api.MaxText + 2, 2 * api.MaxText, 1 << 20} {
		if b, e := frame.Make(make([]byte, n)); len(b) != 0 || e != api.ErrLong {
			t.Errorf("Make of %d bytes: %d bytes, %d", n, len(b), e)
		}
	}
}

// P4.1: Size does not mind whether a content is too long.
func TestSize(t *testing.T) {
	for _, n := range []int{0, 1, 2, 8, 9, 255, 256, api.MaxText - 1, api.MaxText, api.MaxText + 1, 1 << 20} {
		if size := frame.Size(make([]byte, n)); size != 8+n {
			t.Errorf("Size of %d bytes: %d", n, size)
		}
	}
	if size := frame.Size(nil); size != 8 {
		t.Errorf("Size(nil) = %d", size)
	}
	for _, content := range contents(1, 50) {
		if b, e := frame.Make(content); len(b) != frame.Size(content) || e != api.OK {
			t.Errorf("Size of %d bytes: %d, and its record has %d", len(content), frame.Size(content), len(b))
		}
	}
}

// P4.1
func TestJoin(t *testing.T) {
	longest := someBytes(1, api.MaxText)
	for _, l := range [][][]byte{
		nil, {}, {nil}, {{}}, {nil, nil, {}},
		texts("abc"), texts("a", "bc", "d"), texts("", "a", "", "", "b", ""),
		{longest}, {nil, longest, {1}, longest, nil},
	} {
		expectJoin(t, l)
	}
	for seed := range int64(50) {
		expectJoin(t, contents(seed, int(seed)))
	}
	if b := joined(t, nil); len(b) != 0 {
		t.Errorf("Join of no contents: %x", b)
	}
}

// P4.1: 10,000 contents are joined, one more is not.
func TestJoinMany(t *testing.T) {
	for _, n := range []int{maxJoined - 1, maxJoined} {
		expectJoin(t, make([][]byte, n))
		l := contents(2, n)
		expectJoin(t, l)
		expectAll(t, joined(t, l), l, api.OK)
	}
	for _, n := range []int{maxJoined + 1, maxJoined + 2, 3 * maxJoined} {
		for _, l := range [][][]byte{make([][]byte, n), contents(3, n)} {
			if b, e := frame.Join(l); len(b) != 0 || e != api.ErrMany {
				t.Errorf("Join of %d contents: %d bytes, %d", n, len(b), e)
			}
		}
	}
}

// P4.1: one content that is too long is enough, wherever it stands; ErrMany is named before.
func TestJoinLong(t *testing.T) {
	long := make([]byte, api.MaxText+1)
	for place := range 5 {
		l := texts("a", "b", "c", "d", "e")
		l[place] = long
		if b, e := frame.Join(l); len(b) != 0 || e != api.ErrLong {
			t.Errorf("Join with a long content at %d: %d bytes, %d", place, len(b), e)
		}
	}
	for _, place := range []int{0, maxJoined - 1} {
		l := make([][]byte, maxJoined)
		l[place] = long
		if b, e := frame.Join(l); len(b) != 0 || e != api.ErrLong {
			t.Errorf("Join of %d with a long content at %d: %d bytes, %d", maxJoined, place, len(b), e)
		}
		l = append(l, nil)
		if b, e := frame.Join(l); len(b) != 0 || e != api.ErrMany {
			t.Errorf("Join of %d with a long content at %d: %d bytes, %d", len(l), place, len(b), e)
		}
	}
}

// P4.2, the examples
func TestNextExamples(t *testing.T) {
	one, _ := frame.Make([]byte("123456789"))
	expectRecord(t, one, 0, []byte("123456789"))
	expectNone(t, one, 17, api.ErrNone)
	expectNone(t, one, 18, api.ErrRange)
	expectNone(t, one[:16], 0, api.ErrForm)
	torn := slices.Clone(one)
	torn[16] = 0
	expectNone(t, torn, 0, api.ErrSum)
	if e := frame.Check(torn); e != api.ErrSum {
		t.Errorf("Check with the last byte 0: %d", e)
	}
	two := append(slices.Clone(one), one...)
	expectAll(t, append(two, 5), texts("123456789", "123456789"), api.ErrForm)
}

// P4.2: records of each size, at their places
func TestNext(t *testing.T) {
	l := append(contents(4, 30), nil, someBytes(1, api.MaxText), []byte{7}, someBytes(2, api.MaxText-1))
	b, places := definedAll(l)
	for i, content := range l {
		expectRecord(t, b, places[i], content)
		expectRecord(t, b[:places[i+1]], places[i], content)
	}
	expectNone(t, b, len(b), api.ErrNone)
	expectRecord(t, b, 0, l[0]) // again: nothing is remembered
}

// P4.2: places that do not exist, and the end of the bytes
func TestNextPlaces(t *testing.T) {
	for _, b := range [][]byte{nil, {}, {0}, make([]byte, 7), make([]byte, 8), defined([]byte("abc")), make([]byte, 100)} {
		for _, at := range []int{-1, -2, -8, -1 << 32, math.MinInt, len(b) + 1, len(b) + 8, 1 << 32, math.MaxInt - 7, math.MaxInt} {
			expectNone(t, b, at, api.ErrRange)
		}
		expectNone(t, b, len(b), api.ErrNone)
	}
}

// P4.2: a record may stand anywhere, also inside another one, and where All does not come.
func TestNextAnywhere(t *testing.T) {
	inner := defined([]byte("inner"))
	b, places := definedAll([][]byte{[]byte("before"), inner, []byte("behind")})
	expectRecord(t, b, places[1], inner)
	expectRecord(t, b, places[1]+headSize, []byte("inner"))
	for shift := range 20 {
		moved := append(bytes.Repeat([]byte{1}, shift), inner...)
		expectRecord(t, moved, shift, []byte("inner"))
		expectRecord(t, append(moved, 1), shift, []byte("inner"))
	}
	zeros := make([]byte, 20) // a record of no content begins at each place with seven zeros behind it
	for at := range zeros {
		if at <= len(zeros)-headSize {
			expectRecord(t, zeros, at, nil)
		} else {
			expectNone(t, zeros, at, api.ErrForm)
		}
	}
}

// P4.2: fewer than eight bytes
func TestNextShort(t *testing.T) {
	for n := 1; n < headSize; n++ {
		for _, x := range []byte{0, 1, 255} {
			expectNone(t, bytes.Repeat([]byte{x}, n), 0, api.ErrForm)
			expectNone(t, append(defined(nil), bytes.Repeat([]byte{x}, n)...), headSize, api.ErrForm)
		}
	}
}

// P4.2: a length that says more than stands behind it, or more than MaxText, is ErrForm, whatever the sum is.
func TestNextLengths(t *testing.T) {
	behind := someBytes(5, api.MaxText+100)
	for _, n := range []int{0, 1, 2, 3, 255, 256, 300, api.MaxText - 1, api.MaxText} {
		whole := withHead(uint32(n), crc32.ChecksumIEEE(behind[:n]), behind)
		expectRecord(t, whole, 0, behind[:n])
		expectRecord(t, whole[:headSize+n], 0, behind[:n])
		if n > 0 {
			expectNone(t, whole[:headSize+n-1], 0, api.ErrForm)
			expectNone(t, whole[:headSize], 0, api.ErrForm)
			expectNone(t, withHead(uint32(n), crc32.ChecksumIEEE(behind[:n-1]), behind[:n-1]), 0, api.ErrForm)
		}
		expectNone(t, withHead(uint32(n), ^crc32.ChecksumIEEE(behind[:n]), behind[:n]), 0, api.ErrSum)
	}
	for _, n := range []int{api.MaxText + 1, api.MaxText + 2, api.MaxText + 100} {
		expectNone(t, withHead(uint32(n), crc32.ChecksumIEEE(behind[:n]), behind), 0, api.ErrForm)
		expectNone(t, withHead(uint32(n), 0, behind), 0, api.ErrForm)
	}
	for _, n := range []uint32{1 << 17, 1 << 24, 1<<31 - 8, 1<<31 - 1, 1 << 31, 1<<31 + 3, 0xFFFFFFF8, math.MaxUint32 - 1, math.MaxUint32} {
		expectNone(t, withHead(n, 0, behind), 0, api.ErrForm)
		expectNone(t, withHead(n, crc32.ChecksumIEEE([]byte("abc")), []byte("abc")), 0, api.ErrForm)
		expectNone(t, append(defined(nil), withHead(n, 0, behind)...), headSize, api.ErrForm)
	}
}

// P4.2: the four bytes of the length and of the sum have the highest byte first.
func TestNextOrderOfBytes(t *testing.T) {
	content := someBytes(6, 0x0123)
	b := defined(content)
	if !bytes.Equal(b[:4], []byte{0, 0, 1, 0x23}) {
		t.Fatalf("%x", b[:4])
	}
	expectRecord(t, b, 0, content)
	swapped := slices.Clone(b)
	slices.Reverse(swapped[:4])
	expectNone(t, swapped, 0, api.ErrForm)
	swapped = slices.Clone(b)
	slices.Reverse(swapped[4:8])
	expectNone(t, swapped, 0, api.ErrSum)
}

// P4.3
func TestAll(t *testing.T) {
	for _, l := range [][][]byte{
		nil, {nil}, {nil, nil}, texts("abc"), texts("abc", "", "x"), {someBytes(1, api.MaxText), nil, someBytes(2, api.MaxText)},
	} {
		b, _ := definedAll(l)
		expectAll(t, b, l, api.OK)
	}
	for seed := range int64(50) {
		l := contents(seed, int(seed))
		b, _ := definedAll(l)
		expectAll(t, b, l, api.OK)
	}
}

// P4.3: what stands behind the last whole record gives Check's error, which is the one that Next returns there.
func TestAllThenOthers(t *testing.T) {
	for _, x := range []struct {
		behind []byte
		e      api.Errno
	}{
		{[]byte{0}, api.ErrForm},
		{[]byte{9}, api.ErrForm},
		{make([]byte, 7), api.ErrForm},
		{withHead(1, 0, nil), api.ErrForm},
		{withHead(4, crc32.ChecksumIEEE([]byte("abc")), []byte("abc")), api.ErrForm},
		{withHead(api.MaxText+1, 0, make([]byte, api.MaxText+1)), api.ErrForm},
		{withHead(math.MaxUint32, 0, make([]byte, 40)), api.ErrForm},
		{bytes.Repeat([]byte{255}, 40), api.ErrForm},
		{withHead(0, 1, nil), api.ErrSum},
		{withHead(3, 0, []byte("abc")), api.ErrSum},
		{withHead(2, crc32.ChecksumIEEE([]byte("abc")), []byte("abc")), api.ErrSum},
	} {
		for n := range 4 {
			l := contents(int64(n), n)
			b, places := definedAll(l)
			expectAll(t, append(b, x.behind...), l, x.e)
			expectNone(t, append(b, x.behind...), places[n], x.e)
			// A whole record behind it is not found by All, but by Next.
			more := append(slices.Clone(x.behind), defined(bytes.Repeat([]byte("y"), api.MaxText))...)
			if _, _, e := frame.Next(more, 0); e != api.OK {
				expectAll(t, append(b, more...), l, e)
				expectRecord(t, append(b, more...), len(b)+len(x.behind), bytes.Repeat([]byte("y"), api.MaxText))
			}
		}
	}
}

// P4.3: many short records
func TestAllMany(t *testing.T) {
	const n = 30_000 // more than Join takes
	expectAll(t, make([]byte, headSize*n), make([][]byte, n), api.OK)
	expectAll(t, make([]byte, headSize*n+1), make([][]byte, n), api.ErrForm)
	expectAll(t, append(make([]byte, headSize*n), 0, 0, 0, 0, 0, 0, 0, 1), make([][]byte, n), api.ErrSum)
}

// P4.4
func TestCut(t *testing.T) {
	b, _ := definedAll(texts("abc", "", "x")) // 11, 8 and 9 bytes
	for n := range len(b) + 1 {
		want := 0
		for _, end := range []int{11, 19, 28} {
			if end <= n {
				want++
			}
		}
		if count, e := frame.Cut(b, n); count != want || e != api.OK {
			t.Errorf("Cut at %d: %d, %d; want %d", n, count, e, want)
		}
	}
	b[18] ^= 1 // the second record's sum
	for n := range len(b) + 1 {
		if count, e := frame.Cut(b, n); (count == 1) != (n >= 11) || count > 1 || e != api.OK {
			t.Errorf("Cut at %d, with a wrong sum: %d, %d", n, count, e)
		}
	}
}

// P4.4: numbers that are not from 0 to the number of bytes
func TestCutRange(t *testing.T) {
	room := append(defined([]byte("abc")), defined(nil)...)
	for _, b := range [][]byte{nil, {}, {1}, defined(nil), defined([]byte("abc")), room, room[:11]} {
		for _, n := range []int{-1, -8, -1 << 32, math.MinInt, len(b) + 1, len(b) + 8, 1 << 32, math.MaxInt} {
			if count, e := frame.Cut(b, n); count != 0 || e != api.ErrRange {
				t.Errorf("Cut of %d bytes at %d: %d, %d", len(b), n, count, e)
			}
		}
	}
	if count, e := frame.Cut(nil, 0); count != 0 || e != api.OK {
		t.Errorf("Cut of no bytes: %d, %d", count, e)
	}
}

// P4.5: joined records that are torn, at each place
func TestTorn(t *testing.T) {
	for seed := range int64(20) {
		l := contents(seed, int(seed%10))
		b := joined(t, l)
		_, places := definedAll(l)
		whole := 0
		for n := range len(b) + 1 {
			if whole < len(l) && n == places[whole+1] {
				whole++
			}
			e := api.ErrForm
			if n == places[whole] {
				e = api.OK
			}
			expectAll(t, b[:n], l[:whole], e)
			expectAll(t, slices.Clone(b[:n]), l[:whole], e)
			if count, f := frame.Cut(b, n); count != whole || f != api.OK {
				t.Errorf("list %d, Cut at %d: %d, %d; want %d", seed, n, count, f, whole)
			}
		}
	}
}

// P4.5: a record of MaxText bytes that is torn
func TestTornLong(t *testing.T) {
	l := [][]byte{someBytes(1, api.MaxText), someBytes(2, api.MaxText)}
	b := joined(t, l)
	const size = headSize + api.MaxText
	for _, n := range []int{0, 1, 7, 8, 9, size - 1, size, size + 1, size + 7, size + 8, 2*size - 1, 2 * size} {
		e := api.ErrForm
		if n%size == 0 {
			e = api.OK
		}
		expectAll(t, b[:n], l[:n/size], e)
	}
}

// P4.6: one byte of the sum or of the content is changed; the records before it are as they were.
func TestOneByteChanged(t *testing.T) {
	l := texts("abc", "", "123456789", "\x00")
	b, places := definedAll(l)
	for i := range l {
		for place := places[i] + 4; place < places[i+1]; place++ {
			for x := 1; x < 256; x++ {
				b[place] ^= byte(x)
				expectNone(t, b, places[i], api.ErrSum)
				expectAll(t, b, l[:i], api.ErrSum)
				for k := range i {
					expectRecord(t, b, places[k], l[k])
				}
				b[place] ^= byte(x)
			}
		}
	}
	expectAll(t, b, l, api.OK)
}

// P4.6: in a record of MaxText bytes
func TestOneByteOfManyChanged(t *testing.T) {
	b := joined(t, [][]byte{{1}, someBytes(3, api.MaxText)})
	for _, place := range []int{13, 16, 17, 18, 1_000, 32_768, len(b) - 2, len(b) - 1} {
		for bit := range 8 {
			b[place] ^= 1 << bit
			expectNone(t, b, 9, api.ErrSum)
			expectAll(t, b, [][]byte{{1}}, api.ErrSum)
			b[place] ^= 1 << bit
		}
	}
}

// P4.6: records before one whose length is changed are as they were, too.
func TestLengthChanged(t *testing.T) {
	l := texts("abc", "de", "f")
	b, places := definedAll(l)
	for place := places[1]; place < places[1]+4; place++ {
		for x := 1; x < 256; x++ {
			b[place] ^= byte(x)
			e := api.ErrForm
			if n := binary.BigEndian.Uint32(b[places[1]:]); n <= uint32(len(b)-places[1]-headSize) {
				e = api.ErrSum
			}
			expectAll(t, b, l[:1], e)
			b[place] ^= byte(x)
		}
	}
}

// P4.7
func TestJoinsOfJoins(t *testing.T) {
	lists := [][][]byte{nil, {nil}, texts("abc"), texts("", "a", ""), {someBytes(1, api.MaxText)}}
	for seed := range int64(10) {
		lists = append(lists, contents(seed, 3*int(seed)))
	}
	lists = append(lists, contents(11, maxJoined/2))
	for i, l := range lists {
		for k, m := range lists {
			both := slices.Concat(l, m)
			parts := append(joined(t, l), joined(t, m)...)
			if !bytes.Equal(joined(t, both), parts) {
				t.Errorf("lists %d and %d: joined, they are not the joins of both", i, k)
			}
			expectAll(t, parts, both, api.OK)
		}
	}
}

// P4.7: each record that is joined is the one that Make returns.
func TestJoinIsMake(t *testing.T) {
	l := append(contents(12, 100), nil, someBytes(4, api.MaxText))
	var all []byte
	for _, content := range l {
		b, e := frame.Make(content)
		if e != api.OK {
			t.Fatalf("Make of %d bytes: %d", len(content), e)
		}
		if !bytes.Equal(joined(t, [][]byte{content}), b) {
			t.Errorf("Join of a list of one content of %d bytes", len(content))
		}
		all = append(all, b...)
	}
	if !bytes.Equal(joined(t, l), all) {
		t.Errorf("Join of %d contents is not their records", len(l))
	}
}

// P4.7: contents may be records, and records of records.
func TestRecordsOfRecords(t *testing.T) {
	l := texts("a", "", "bc")
	want := l
	for range 20 {
		b := joined(t, l)
		expectAll(t, b, l, api.OK)
		l = [][]byte{b, {}, b[:len(b)-1]}
		if len(b) > 20_000 {
			break
		}
	}
	for string(l[0]) != "a" { // the first content of each list is the list before it, joined
		frames, _ := frame.All(l[0])
		if len(frames) != 3 {
			t.Fatalf("%d records", len(frames))
		}
		l = [][]byte{frames[0].Content, frames[1].Content, frames[2].Content}
	}
	if !slices.EqualFunc(l, want, bytes.Equal) {
		t.Errorf("%q", l)
	}
}

// P4.2: the sum is the one of package crc.
func TestSumIsOfCrc(t *testing.T) {
	for _, content := range contents(13, 40) {
		expectRecord(t, withHead(uint32(len(content)), crc.Sum(content), content), 0, content)
		expectNone(t, withHead(uint32(len(content)), crc.Sum(content)+1, content), 0, api.ErrSum)
	}
}

// R4: what is given is not changed, and what stands behind its length is not read.
func TestArguments(t *testing.T) {
	room := []byte("abcdefgh")
	l := [][]byte{room[:3], room[3:5], room[:0], []byte("x")}
	if b, e := frame.Make(room[:3]); !bytes.Equal(b, defined([]byte("abc"))) || e != api.OK {
		t.Errorf("Make: %x, %d", b, e)
	}
	expectJoin(t, l)
	expectJoin(t, l[:2])
	if string(room) != "abcdefgh" || string(l[3]) != "x" {
		t.Errorf("%q, %q", room, l[3])
	}
	b, _ := definedAll(texts("abc", "de", "f"))
	before := slices.Clone(b)
	expectAll(t, b[:11], texts("abc"), api.OK)
	expectAll(t, b[:20], texts("abc"), api.ErrForm)
	expectNone(t, b[:20], 11, api.ErrForm)
	expectNone(t, b[:11], 11, api.ErrNone)
	expectNone(t, b[:11], 21, api.ErrRange)
	if n, e := frame.Cut(b[:11], 12); n != 0 || e != api.ErrRange {
		t.Errorf("Cut: %d, %d", n, e)
	}
	if !bytes.Equal(b, before) {
		t.Errorf("the bytes are %x", b)
	}
}

// R4: results share memory with nothing, also not behind their lengths.
func TestResultsAreNew(t *testing.T) {
	content := []byte("abc")
	one, _ := frame.Make(content)
	two, _ := frame.Make(content)
	both, _ := frame.Join([][]byte{content, content})
	clear(one[:cap(one)])
	content[0] = 'z'
	if want := defined([]byte("abc")); !bytes.Equal(two, want) || !bytes.Equal(both, append(want, want...)) {
		t.Errorf("%x, %x", two, both)
	}

	b, places := definedAll(texts("abc", "", "de", "f"))
	l, _ := frame.All(b)
	f, _, _ := frame.Next(b, 0)
	for _, f := range []frame.Frame{l[0], l[1], f} {
		room := f.Content[:cap(f.Content)]
		for i := range room {
			room[i] = 'z'
		}
	}
	for i, want := range texts("de", "f") {
		if !bytes.Equal(l[i+2].Content, want) {
			t.Errorf("record %d: %q", i+2, l[i+2].Content)
		}
		expectRecord(t, b, places[i+2], want)
	}
	expectRecord(t, b, 0, []byte("abc"))
	l, _ = frame.All(b)
	clear(b)
	if string(l[0].Content) != "abc" || string(l[3].Content) != "f" {
		t.Errorf("the bytes are cleared: %q, %q", l[0].Content, l[3].Content)
	}
}

// P1: every function takes any bytes and any number; and what Next finds is found by the others.
func TestAnyBytes(t *testing.T) {
	r := rand.New(rand.NewSource(7))
	found := 0
	for range 20_000 {
		b := make([]byte, r.Intn(60))
		if r.Intn(3) > 0 {
			copy(b, joined(t, contents(r.Int63(), 3)))
		}
		for range r.Intn(3) {
			if len(b) > 0 {
				b[r.Intn(len(b))] ^= byte(1 << r.Intn(8))
			}
		}
		var want [][]byte
		at, e := 0, api.OK
		for e == api.OK {
			var f frame.Frame
			var next int
			if f, next, e = frame.Next(b, at); e == api.OK {
				want = append(want, f.Content)
				at = next
				found++
			}
		}
		if e == api.ErrNone {
			e = api.OK
		}
		expectAll(t, b, want, e)
		if again := joined(t, want); !bytes.Equal(again, b[:at]) {
			t.Errorf("%x: joined again, the records are %x", b, again)
		}
	}
	if found < 10_000 {
		t.Errorf("only %d records were found", found)
	}
}

// R8: equal calls return equal results, whatever was called before.
func TestSameAgain(t *testing.T) {
	b := joined(t, texts("abc", strings.Repeat("x", 300)))
	for range 3 {
		frame.Make(make([]byte, api.MaxText+1))
		frame.Next(b, -1)
		frame.Cut(b, len(b)+1)
		frame.Check(b[1:])
		expectAll(t, b, texts("abc", strings.Repeat("x", 300)), api.OK)
		expectRecord(t, b, 11, []byte(strings.Repeat("x", 300)))
	}
}

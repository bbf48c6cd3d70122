package crc_test

import (
	"bytes"
	"hash/crc32"
	"math"
	"math/rand"
	"slices"
	"strconv"
	"strings"
	"testing"

	"skald/api"
	"skald/crc"
)

// maxJoin is the number of bytes that a second part may have.
const maxJoin = 1 << 31

// stepped makes steps with a register, one by one, as the chapter defines them.
func stepped(register uint32, steps int) uint32 {
	for range steps {
		out := register & 1
		register >>= 1
		if out == 1 {
			register ^= 0xEDB88320
		}
	}
	return register
}

// continued is what a checksum becomes if it goes on with bytes, as the chapter defines it.
func continued(sum uint32, b []byte) uint32 {
	register := ^sum
	for _, x := range b {
		register = stepped(register^uint32(x), 8)
	}
	return ^register
}

// someBytes returns n bytes, the same for each seed.
func someBytes(seed int64, n int) []byte {
	b := make([]byte, n)
	rand.New(rand.NewSource(seed)).Read(b)
	return b
}

// someSums returns registers with few bits and with many.
func someSums() []uint32 {
	l := []uint32{0, 1, 2, 5, 128, 255, 256, 0xEDB88320, 0xCBF43926, 0xDEADBEEF, 1 << 31, math.MaxUint32 - 1, math.MaxUint32}
	r := rand.New(rand.NewSource(1))
	for range 20 {
		l = append(l, r.Uint32())
	}
	return l
}

func expectJoin(t *testing.T, a, b uint32, n int, sum uint32) {
	t.Helper()
	if x, e := crc.Join(a, b, n); x != sum || e != api.OK {
		t.Errorf("Join(%08x, %08x, %d) = %08x, %d; want %08x", a, b, n, x, e, sum)
	}
}

// joined is Join for numbers of bytes that are allowed.
func joined(t *testing.T, a, b uint32, n int) uint32 {
	t.Helper()
	x, e := crc.Join(a, b, n)
	if e != api.OK {
		t.Fatalf("Join(%08x, %08x, %d): error %d", a, b, n, e)
	}
	return x
}

// P2.1, the examples and other known checksums
func TestSumExamples(t *testing.T) {
	for _, x := range []struct {
		s   string
		sum uint32
	}{
		{"", 0},
		{"123456789", 0xCBF43926},
		{"a", 0xE8B7BE43},
		{"abc", 0x352441C2},
		{"The quick brown fox jumps over the lazy dog", 0x414FA339},
		{"\x00", 0xD202EF8D},
		{"\x00\x00\x00\x00", 0x2144DF1C},
		{"\xff", 0xFF000000},
		{"\xff\xff\xff\xff", 0xFFFFFFFF},
	} {
		if sum := crc.Sum([]byte(x.s)); sum != x.sum {
			t.Errorf("Sum(%q) = %08x, want %08x", x.s, sum, x.sum)
		}
	}
	if sum := crc.Sum(nil); sum != 0 {
		t.Errorf("Sum of a nil slice: %08x", sum)
	}
	if sum := crc.More(crc.Sum([]byte("1234")), []byte("56789")); sum != 0xCBF43926 {
		t.Errorf("More of the checksum of 1234 with 56789: %08x", sum)
	}
}

// P2.1: Sum and More are what the definition says, and the usual CRC-32.
func TestSumByDefinition(t *testing.T) {
	var texts [][]byte
	for x := range 256 {
		texts = append(texts, []byte{byte(x)}, bytes.Repeat([]byte{byte(x)}, 7))
	}
	for n := range 100 {
		texts = append(texts, someBytes(int64(n), n))
	}
	texts = append(texts, someBytes(100, api.MaxText), make([]byte, api.MaxText))
	for i, b := range texts {
		if sum := crc.Sum(b); sum != continued(0, b) || sum != crc32.ChecksumIEEE(b) {
			t.Errorf("Sum of text %d, %d bytes: %08x, want %08x", i, len(b), sum, continued(0, b))
		}
		for _, first := range []uint32{0, 1, 0xCBF43926, math.MaxUint32, uint32(i) * 0x9E3779B1} {
			if sum := crc.More(first, b); sum != continued(first, b) || sum != crc32.Update(first, crc32.IEEETable, b) {
				t.Errorf("More(%08x) with text %d, %d bytes: %08x, want %08x", first, i, len(b), sum, continued(first, b))
			}
		}
	}
}

// P2.1: any checksum that goes on with no bytes stays the same.
func TestMoreOfNothing(t *testing.T) {
	for _, sum := range someSums() {
		if crc.More(sum, nil) != sum || crc.More(sum, []byte{}) != sum {
			t.Errorf("More(%08x) with no bytes: %08x", sum, crc.More(sum, nil))
		}
	}
}

// P2.1: Check reports true for the checksum only.
func TestCheck(t *testing.T) {
	for n := range 50 {
		b := someBytes(int64(n), n)
		sum := crc32.ChecksumIEEE(b)
		if !crc.Check(b, sum) {
			t.Errorf("Check of %d bytes and their checksum: false", n)
		}
		for bit := range 32 {
			if crc.Check(b, sum^1<<bit) {
				t.Errorf("Check of %d bytes and their checksum with another bit %d: true", n, bit)
			}
		}
		if crc.Check(b, sum+1) || crc.Check(b, sum-1) || crc.Check(b, ^sum) {
			t.Errorf("Check of %d bytes and another checksum: true", n)
		}
	}
	if !crc.Check(nil, 0) || crc.Check(nil, 1) || crc.Check(nil, math.MaxUint32) {
		t.Errorf("Check of no bytes")
	}
}

// P2.1 and R4: what lies beyond the bytes' length does not count, and nothing is changed.
func TestSumCapacity(t *testing.T) {
	b := []byte("123456789 and more")
	before := slices.Clone(b)
	if crc.Sum(b[:9]) != 0xCBF43926 || crc.More(0, b[:9]) != 0xCBF43926 || !crc.Check(b[:9], 0xCBF43926) {
		t.Errorf("%08x, %08x", crc.Sum(b[:9]), crc.More(0, b[:9]))
	}
	if !bytes.Equal(b, before) {
		t.Errorf("the bytes are %q", b)
	}
}

// P2.2, the examples and invalid numbers of bytes
func TestJoinExamples(t *testing.T) {
	for _, x := range []struct {
		a, b uint32
		n    int
		sum  uint32
		e    api.Errno
	}{
		{5, 7, 0, 2, api.OK},
		{0, 7, 100, 7, api.OK},
		{0, 0, 0, 0, api.OK},
		{0, 7, maxJoin, 7, api.OK},
		{1, 0, 1, 0x77073096, api.OK},
		{128, 1, 1, 0xEDB88321, api.OK},
		{256, 0, 1, 1, api.OK},
		{1 << 31, 0, 3, 1 << 7, api.OK},
		{1 << 31, 0, 4, 0xEDB88320, api.OK},
		{5, 7, -1, 0, api.ErrArg},
		{0, 7, -1, 0, api.ErrArg},
		{0, 0, -1, 0, api.ErrArg},
		{5, 7, maxJoin + 1, 0, api.ErrArg},
		{0, 7, maxJoin + 1, 0, api.ErrArg},
		{5, 7, 1 << 32, 0, api.ErrArg},
		{5, 7, 1<<32 + 1, 0, api.ErrArg},
		{5, 7, math.MaxInt, 0, api.ErrArg},
		{5, 7, math.MinInt, 0, api.ErrArg},
		{5, 7, -maxJoin, 0, api.ErrArg},
	} {
		if sum, e := crc.Join(x.a, x.b, x.n); sum != x.sum || e != x.e {
			t.Errorf("Join(%08x, %08x, %d) = %08x, %d; want %08x, %d", x.a, x.b, x.n, sum, e, x.sum, x.e)
		}
	}
}

// P2.2: Join makes 8 n steps without taking in anything, also with numbers that are no checksums.
func TestJoinBySteps(t *testing.T) {
	for _, a := range someSums() {
		register := a
		for n := range 300 {
			for _, b := range []uint32{0, 1, 0xCBF43926, a, math.MaxUint32} {
				expectJoin(t, a, b, n, register^b)
			}
			register = stepped(register, 8)
		}
	}
	for _, n := range []int{1_000, 4_095, 4_096, api.MaxText - 1, api.MaxText, 1_000_003} {
		expectJoin(t, 0xDEADBEEF, 0x12345678, n, stepped(0xDEADBEEF, 8*n)^0x12345678)
	}
}

// P2.2: joins of 2^k bytes, up to the limit, are twice those of half as many.
func TestJoinDoubled(t *testing.T) {
	for _, a := range someSums() {
		register := stepped(a, 8)
		for n := 1; n <= maxJoin; n *= 2 {
			expectJoin(t, a, 7, n, register^7)
			if n < maxJoin {
				register = joined(t, joined(t, a, 0, n), 0, n)
			}
		}
	}
}

// P2.2: Join of 2^31 - 1 and of 2^31 bytes, with checksums of that many bytes.
func TestJoinOfLongParts(t *testing.T) {
	first := crc32.ChecksumIEEE([]byte("123456789"))
	chunk := make([]byte, 1<<20)
	var second uint32
	whole := first
	for range maxJoin/len(chunk) - 1 {
		second = crc32.Update(second, crc32.IEEETable, chunk)
		whole = crc32.Update(whole, crc32.IEEETable, chunk)
	}
	short := chunk[1:]
	expectJoin(t, first, crc32.Update(second, crc32.IEEETable, short), maxJoin-1, crc32.Update(whole, crc32.IEEETable, short))
	expectJoin(t, first, crc32.Update(second, crc32.IEEETable, chunk), maxJoin, crc32.Update(whole, crc32.IEEETable, chunk))
}

// P2.3
func TestTable(t *testing.T) {
	table := crc.Table()
	for i, register := range map[int]uint32{0: 0, 1: 0x77073096, 2: 0xEE0E612C, 16: 0x1DB71064, 128: 0xEDB88320, 255: 0x2D02EF8D} {
		if table[i] != register {
			t.Errorf("Table at %d: %08x, want %08x", i, table[i], register)
		}
	}
	for i, register := range table {
		if register != stepped(uint32(i), 8) || register != crc32.IEEETable[i] {
			t.Errorf("Table at %d: %08x, want %08x", i, register, stepped(uint32(i), 8))
		}
	}
}

// P2.3 and R4: who changes a table changes neither the next one nor the checksums.
func TestTableIsNew(t *testing.T) {
	table := crc.Table()
	clear(table[:])
	if again := crc.Table(); again[1] != 0x77073096 || again[255] != 0x2D02EF8D {
		t.Errorf("the next table: %08x, %08x", again[1], again[255])
	}
	if sum := crc.Sum([]byte("123456789")); sum != 0xCBF43926 {
		t.Errorf("Sum afterwards: %08x", sum)
	}
}

// P2.4
func TestTextExamples(t *testing.T) {
	for _, x := range []struct {
		sum  uint32
		text string
	}{
		{0, "00000000"}, {1, "00000001"}, {15, "0000000f"}, {16, "00000010"}, {255, "000000ff"},
		{0xCBF43926, "cbf43926"}, {0x01234567, "01234567"}, {0x89ABCDEF, "89abcdef"}, {0xFEDCBA98, "fedcba98"},
		{1 << 31, "80000000"}, {math.MaxInt32, "7fffffff"}, {math.MaxUint32, "ffffffff"},
	} {
		if text := crc.Hex(x.sum); text != x.text {
			t.Errorf("Hex(%d) = %q, want %q", x.sum, text, x.text)
		}
		if sum, e := crc.Parse(x.text); sum != x.sum || e != api.OK {
			t.Errorf("Parse(%q) = %d, %d; want %d", x.text, sum, e, x.sum)
		}
	}
}

// P2.4: what was written is read again, and written as the digits of the number.
func TestTextsThereAndBack(t *testing.T) {
	l := someSums()
	for bit := range 32 {
		l = append(l, 1<<bit, 1<<bit-1, ^uint32(1<<bit))
	}
	for _, sum := range l {
		digits := strconv.FormatUint(uint64(sum), 16)
		text := strings.Repeat("0", 8-len(digits)) + digits
		if crc.Hex(sum) != text {
			t.Errorf("Hex(%d) = %q, want %q", sum, crc.Hex(sum), text)
		}
		if again, e := crc.Parse(text); again != sum || e != api.OK {
			t.Errorf("Parse(%q) = %d, %d; want %d", text, again, e, sum)
		}
	}
}

// P2.4: texts that are too short, too long, with capital letters or with other bytes
func TestNoTexts(t *testing.T) {
	l := []string{
		"", "0", "f", "0000000", "cbf4392", "000000000", "cbf43926 ", " cbf43926", "cbf439260", "0cbf43926",
		"CBF43926", "Cbf43926", "cbf4392F", "FFFFFFFF", "0000000A",
		"0000000g", "g0000000", "+0000000", "-0000001", "0x000000", "1_000_00", "0000 000", "       0", "0       ",
		"0000000\n", "cbf4392\x00", "\x00\x00\x00\x00\x00\x00\x00\x00", "é00000", "é000000", "0000000é", "cbf43926cbf43926",
		strings.Repeat("0", 16), strings.Repeat("0", api.MaxText),
	}
	for _, s := range l {
		if sum, e := crc.Parse(s); sum != 0 || e != api.ErrForm {
			t.Errorf("Parse(%q) = %d, %d; want ErrForm", s[:min(len(s), 40)], sum, e)
		}
	}
}

// P2.4: at each place of a text, Parse takes the bytes 0-9 and a-f, and no others.
func TestDigits(t *testing.T) {
	for place := range 8 {
		for x := range 256 {
			text := []byte("12345678")
			text[place] = byte(x)
			digit := strings.IndexByte("0123456789abcdef", byte(x))
			sum, e := crc.Parse(string(text))
			if digit < 0 {
				if sum != 0 || e != api.ErrForm {
					t.Errorf("Parse(%q) = %d, %d; want ErrForm", text, sum, e)
				}
				continue
			}
			shift := 4 * (7 - place)
			want := uint32(0x12345678)&^(15<<shift) | uint32(digit)<<shift
			if sum != want || e != api.OK {
				t.Errorf("Parse(%q) = %08x, %d; want %08x", text, sum, e, want)
			}
		}
	}
}

// P2.5: the checksum of two parts, one behind the other, by More and by Join
func TestParts(t *testing.T) {
	for _, n := range []int{0, 1, 2, 9, 33, 100, 257} {
		b := someBytes(int64(n), n)
		whole := crc.Sum(b)
		for cut := range n + 1 {
			first, second := b[:cut], b[cut:]
			if sum := crc.More(crc.Sum(first), second); sum != whole {
				t.Errorf("More at %d of %d bytes: %08x, want %08x", cut, n, sum, whole)
			}
			expectJoin(t, crc.Sum(first), crc.Sum(second), len(second), whole)
		}
	}
	b := someBytes(1, 3*api.MaxText)
	for _, cut := range []int{0, 1, api.MaxText, len(b) - 1, len(b)} {
		expectJoin(t, crc.Sum(b[:cut]), crc.Sum(b[cut:]), len(b)-cut, crc.Sum(b))
	}
}

// P2.6: if just one byte is changed, the checksum is another one.
func TestOneByteChanged(t *testing.T) {
	for _, n := range []int{1, 2, 5, 40, 300} {
		b := someBytes(int64(n), n)
		sum := crc.Sum(b)
		for place := range b {
			old := b[place]
			for x := 1; x < 256; x++ {
				b[place] = old ^ byte(x)
				if crc.Sum(b) == sum || crc.Check(b, sum) {
					t.Fatalf("%d bytes, byte %d changed by %02x: the same checksum", n, place, x)
				}
			}
			b[place] = old
		}
	}
}

// P2.6: if several bits are changed of which no two are 32 or more bits apart, the checksum is another one.
// Bits are counted in the order in which a register takes them: the lowest one of each byte first.
func TestNearBitsChanged(t *testing.T) {
	r := rand.New(rand.NewSource(2))
	b := someBytes(3, 24)
	sum := crc.Sum(b)
	for start := range 8*len(b) - 31 {
		for i := range 300 {
			bits := r.Uint32() & r.Uint32()
			switch {
			case i < 32:
				bits = 1<<31 | 1<<i
			case i < 64:
				bits = math.MaxUint32 >> (i - 32)
			case i == 64: // the polynomial's bits below the highest one
				bits = 0xEDB88320
			case i == 65:
				bits = 0x04C11DB7
			}
			bits |= 1
			changed := slices.Clone(b)
			for k := range 32 {
				at := start + k
				changed[at/8] ^= byte(bits>>k&1) << (at % 8)
			}
			if crc.Sum(changed) == sum || crc.Check(changed, sum) {
				t.Fatalf("bits %08x changed from bit %d on: the same checksum", bits, start)
			}
		}
	}
}

// P2.6: the checksums of three texts of equal length, combined, are that of the three texts combined.
func TestThreeTexts(t *testing.T) {
	for n := range 200 {
		a, b, c := someBytes(int64(3*n), n), someBytes(int64(3*n+1), n), someBytes(int64(3*n+2), n)
		all := make([]byte, n)
		for i := range all {
			all[i] = a[i] ^ b[i] ^ c[i]
		}
		if sum := crc.Sum(a) ^ crc.Sum(b) ^ crc.Sum(c); sum != crc.Sum(all) {
			t.Errorf("%d bytes: %08x combined, want %08x", n, sum, crc.Sum(all))
		}
	}
}

// P2.7: joins may be grouped as one likes, also with numbers that are no checksums, as far as n + m is allowed.
func TestJoinsOfJoins(t *testing.T) {
	l := []int{0, 1, 2, 3, 100, 65_535, 65_536, 1 << 29, 1 << 30, 1<<30 + 1, maxJoin - 1, maxJoin}
	sums := someSums()
	for i, n := range l {
		for j, m := range l {
			if n+m > maxJoin {
				continue
			}
			for k, a := range sums {
				b, c := sums[(k+i+1)%len(sums)], sums[(k+j+2)%len(sums)]
				left := joined(t, joined(t, a, b, n), c, m)
				expectJoin(t, a, joined(t, b, c, m), n+m, left)
			}
		}
	}
}

// R8 and P1: equal calls return equal results, whatever was called before.
func TestSameAgain(t *testing.T) {
	for range 3 {
		crc.Join(0xCBF43926, 1, maxJoin+1)
		crc.Parse("cbf4392G")
		if crc.Sum([]byte("123456789")) != 0xCBF43926 || crc.Hex(0xCBF43926) != "cbf43926" {
			t.Errorf("%08x, %q", crc.Sum([]byte("123456789")), crc.Hex(0xCBF43926))
		}
		expectJoin(t, 5, 7, 0, 2)
	}
}

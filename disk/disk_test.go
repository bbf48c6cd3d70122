package disk_test

import (
	"bytes"
	"encoding/binary"
	"fmt"
	"hash/crc32"
	"math"
	"math/rand"
	"slices"
	"strings"
	"testing"

	"skald/api"
	"skald/disk"
)

const (
	headSize = 8
	maxText  = 65_536
	maxLog   = 16_777_216
)

// lefts are numbers of bytes, also ones that no disk has, and ones with which a sum does not fit.
var lefts = []int{math.MinInt, math.MinInt + 1, -1 << 32, -100, -9, -2, -1, 0, 1, 2, 7, 8, 9, 10, 15, 16, 17, 18, 19, 20, 25, 26, 27, 28, 29, 30, 100, 1 << 20, 1 << 32, math.MaxInt - 28, math.MaxInt - 9, math.MaxInt - 1, math.MaxInt}

// plain is a disk as the chapter defines it: the contents of whole records, of which the first ones are safe.
type plain struct {
	contents []string
	safe     int // of the contents
	snapshot string
	saved    bool
}

func (p *plain) copy() *plain {
	c := *p
	c.contents = slices.Clone(p.contents)
	return &c
}

// size returns how many bytes the first n records have.
func (p *plain) size(n int) int {
	size := 0
	for _, content := range p.contents[:n] {
		size += headSize + len(content)
	}
	return size
}

func (p *plain) len() int { return p.size(len(p.contents)) }

func (p *plain) append(content string) api.Errno {
	switch {
	case len(content) > maxText:
		return api.ErrLong
	case p.len()+headSize+len(content) > maxLog:
		return api.ErrFull
	}
	p.contents = append(p.contents, content)
	return api.OK
}

func (p *plain) sync() { p.safe = len(p.contents) }

// tear takes records from the others, one after the other, as long as there are bytes left for them.
func (p *plain) tear(left int) {
	n := p.safe
	for n < len(p.contents) && headSize+len(p.contents[n]) <= left {
		left -= headSize + len(p.contents[n])
		n++
	}
	p.contents, p.safe = slices.Clip(p.contents[:n]), n
}

func (p *plain) save(state string) api.Errno {
	if len(state) > maxText {
		return api.ErrLong
	}
	*p = plain{snapshot: state, saved: true}
	return api.OK
}

// list returns a text for contents, of which long ones are shortened, and at most twenty are told.
func list(l []string) string {
	text := ""
	for i, content := range l {
		if i == 20 {
			return text + fmt.Sprint(" .. ", len(l))
		}
		text += fmt.Sprintf(" %.9q(%d)", content, len(content))
	}
	return text
}

// records returns the contents of a disk's records.
func records(d *disk.Disk) []string {
	var l []string
	for _, content := range d.Records() {
		l = append(l, string(content))
	}
	return l
}

// expectSame checks all that a disk tells of itself, and that being asked does not change what it tells next.
func expectSame(t *testing.T, d *disk.Disk, p *plain) {
	t.Helper()
	for range 2 {
		if d.Len() != p.len() || d.Safe() != p.size(p.safe) {
			t.Fatalf("Len %d, Safe %d; want %d, %d", d.Len(), d.Safe(), p.len(), p.size(p.safe))
		}
		if got := records(d); !slices.Equal(got, p.contents) {
			t.Fatalf("Records:%s; want%s", list(got), list(p.contents))
		}
		state, saved := d.Snapshot()
		if string(state) != p.snapshot || saved != p.saved {
			t.Fatalf("Snapshot: %.9q (%d bytes), %t; want %.9q (%d bytes), %t", state, len(state), saved, p.snapshot, len(p.snapshot), p.saved)
		}
	}
}

func expectAppend(t *testing.T, d *disk.Disk, p *plain, content string) api.Errno {
	t.Helper()
	e := d.Append([]byte(content))
	if want := p.append(content); e != want {
		t.Fatalf("Append(%.9q (%d bytes)) at %d bytes: %d, want %d", content, len(content), d.Len(), e, want)
	}
	return e
}

func expectSave(t *testing.T, d *disk.Disk, p *plain, state string) api.Errno {
	t.Helper()
	e := d.Save([]byte(state))
	if want := p.save(state); e != want {
		t.Fatalf("Save(%.9q (%d bytes)): %d, want %d", state, len(state), e, want)
	}
	return e
}

func expectSync(t *testing.T, d *disk.Disk, p *plain) {
	t.Helper()
	d.Sync()
	p.sync()
	expectSame(t, d, p)
}

func expectTear(t *testing.T, d *disk.Disk, p *plain, left int) {
	t.Helper()
	d.Tear(left)
	p.tear(left)
	expectSame(t, d, p)
}

// is checks that something is what it has to be.
func is[T comparable](t *testing.T, got, want T) {
	t.Helper()
	if got != want {
		t.Errorf("%v, want %v", got, want)
	}
}

// record returns a content's record as chapter 4 defines it.
func record(content string) string {
	b := binary.BigEndian.AppendUint32(nil, uint32(len(content)))
	b = binary.BigEndian.AppendUint32(b, crc32.ChecksumIEEE([]byte(content)))
	return string(append(b, content...))
}

// kinds calls a function for disks of many kinds, each time with ones that nobody else has: with several records that are
// safe, and ones that are not, with and without a snapshot.
func kinds(t *testing.T, do func(d *disk.Disk, p *plain)) {
	t.Helper()
	lists := [][]string{
		{}, {""}, {"a"}, {"a", "bc"}, {"a", "bc", "d"}, {"", "", ""}, {"bc", "", "x", "\x00\x00"},
		{record("a") + record("bc"), "\xff\xff\xff\xff", strings.Repeat("v", 300)},
	}
	for _, l := range lists {
		for safe := range len(l) + 1 {
			for _, snapshot := range []int{0, 1, 2} {
				d, p := disk.New(), &plain{}
				if snapshot > 0 {
					expectAppend(t, d, p, "before")
					expectSave(t, d, p, []string{"", "", "state"}[snapshot])
				}
				for i, content := range l {
					if i == safe {
						expectSync(t, d, p)
					}
					expectAppend(t, d, p, content)
				}
				if safe == len(l) {
					expectSync(t, d, p)
				}
				do(d, p)
			}
		}
	}
}

// P16.2 to P16.5: the chapter's examples.
func TestExamples(t *testing.T) {
	d := disk.New()
	is(t, d.Append([]byte("a")), api.OK)
	d.Sync()
	is(t, d.Append([]byte("bc")), api.OK)
	is(t, d.Append([]byte("d")), api.OK)
	is(t, d.Len(), 28)
	is(t, d.Safe(), 9)
	d.Tear(18)
	is(t, list(records(d)), list([]string{"a", "bc"}))
	is(t, d.Len(), 19)
	is(t, d.Safe(), 19)
	is(t, d.Append([]byte("e")), api.OK)
	d.Tear(8)
	is(t, list(records(d)), list([]string{"a", "bc"}))
	is(t, d.Save([]byte("s")), api.OK)
	is(t, d.Len(), 0)
	for range 2 {
		state, saved := d.Snapshot()
		is(t, string(state), "s")
		is(t, saved, true)
		d.Tear(0)
	}
}

// P16.1: a new disk has no bytes and no snapshot; two new ones have nothing in common.
func TestNew(t *testing.T) {
	d := disk.New()
	expectSame(t, d, &plain{})
	is(t, d.Len(), 0)
	is(t, d.Safe(), 0)
	is(t, len(d.Records()), 0)
	state, saved := d.Snapshot()
	is(t, len(state), 0)
	is(t, saved, false)
	other, p := disk.New(), &plain{}
	expectSave(t, other, p, "s")
	expectAppend(t, other, p, "a")
	expectSync(t, other, p)
	expectSame(t, d, &plain{})
	expectSame(t, disk.New(), &plain{})
	expectSync(t, d, &plain{})
	for _, left := range lefts {
		expectTear(t, d, &plain{}, left)
	}
}

// P16.1: a copy has the same log, of which the same bytes are safe, and the same snapshot.
func TestCopy(t *testing.T) {
	kinds(t, func(d *disk.Disk, p *plain) {
		expectSame(t, d.Copy(), p)
		expectSame(t, d.Copy().Copy(), p)
		expectSame(t, d, p)
	})
}

// P16.1, R8: neither a disk nor its copy is changed by what becomes of the other one; both can go on alike.
func TestCopyAlone(t *testing.T) {
	change := []func(d *disk.Disk, p *plain){
		func(d *disk.Disk, p *plain) { expectAppend(t, d, p, "new") },
		func(d *disk.Disk, p *plain) { expectSync(t, d, p) },
		func(d *disk.Disk, p *plain) { expectTear(t, d, p, 9) },
		func(d *disk.Disk, p *plain) {
			expectTear(t, d, p, 0)
			expectAppend(t, d, p, "other")
			expectAppend(t, d, p, "others")
		},
		func(d *disk.Disk, p *plain) { expectSave(t, d, p, "new state") },
	}
	kinds(t, func(d *disk.Disk, p *plain) {
		for _, do := range change {
			c, q := d.Copy(), p.copy()
			b, r := c.Copy(), q.copy()
			do(c, q)
			expectSame(t, c, q)
			expectSame(t, b, r)
			expectSame(t, d, p)
			do(b, r)
			expectSame(t, b, q)
			expectSame(t, c, r)
		}
		for _, do := range change {
			c, q := d.Copy(), p.copy()
			do(d, p)
			expectSame(t, c, q)
		}
	})
}

// P16.2, P16.4, P16.7: contents of all bytes and lengths up to MaxText, also of no bytes, stand at the end, are not safe
// before Sync, and are read in order.
func TestAppend(t *testing.T) {
	all := make([]byte, 256)
	for i := range all {
		all[i] = byte(i)
	}
	d, p := disk.New(), &plain{}
	for round := range 3 {
		for _, content := range []string{"", "x", "\x00", "\x00\x00\x00\x00\x00\x00\x00\x00", "äöü", string(all), record(""), record("abc"), record("abc")[:9], strings.Repeat("v", maxText-1), strings.Repeat("w", maxText), "x", "x"} {
			before, safe := d.Len(), d.Safe()
			is(t, expectAppend(t, d, p, content), api.OK)
			is(t, d.Len(), before+headSize+len(content))
			is(t, d.Safe(), safe)
			expectSame(t, d, p)
			if round == 1 {
				expectSync(t, d, p)
				is(t, d.Safe(), d.Len())
			}
		}
	}
}

// P16.2, R7: a content that is longer than MaxText is refused, and changes nothing.
func TestAppendLong(t *testing.T) {
	kinds(t, func(d *disk.Disk, p *plain) {
		for _, n := range []int{maxText + 1, maxText + 2, 2 * maxText, 1 << 20} {
			is(t, expectAppend(t, d, p, strings.Repeat("v", n)), api.ErrLong)
			expectSame(t, d, p)
		}
		is(t, expectAppend(t, d, p, strings.Repeat("v", maxText)), api.OK)
		expectSame(t, d, p)
	})
}

// filled returns a disk whose log has so many bytes less than it may have; the last record is the shortest one.
func filled(t *testing.T, room int, sync bool) (*disk.Disk, *plain) {
	t.Helper()
	d, p := disk.New(), &plain{}
	for n := maxLog - headSize - room; n > 0; {
		size := min(n, headSize+maxText)
		if n-size > 0 && n-size < headSize { // so that what is left is a record, too
			size -= headSize
		}
		is(t, expectAppend(t, d, p, strings.Repeat("v", size-headSize)), api.OK)
		n -= size
	}
	is(t, expectAppend(t, d, p, ""), api.OK)
	if sync {
		d.Sync()
		p.sync()
	}
	is(t, d.Len(), maxLog-room)
	return d, p
}

// P16.2: a log has up to 2^24 bytes, whether they are safe or not; what would not fit is refused, and changes nothing.
func TestAppendFull(t *testing.T) {
	for _, sync := range []bool{false, true} {
		const most = 2*headSize + 2*maxText
		almost, p := filled(t, most, sync)
		for _, x := range []struct {
			room, size int
			want       api.Errno
		}{
			{0, 0, api.ErrFull}, {0, 1, api.ErrFull}, {0, maxText, api.ErrFull}, {0, maxText + 1, api.ErrLong},
			{1, 0, api.ErrFull}, {7, 0, api.ErrFull}, {8, 0, api.OK}, {8, 1, api.ErrFull}, {9, 1, api.OK}, {9, 2, api.ErrFull},
			{9, maxText + 1, api.ErrLong}, {maxText, maxText, api.ErrFull}, {maxText + 7, maxText, api.ErrFull},
			{maxText + 8, maxText, api.OK}, {maxText + 8, maxText + 1, api.ErrLong},
		} {
			d, q := almost.Copy(), p.copy()
			for left := most - x.room; left > 0; left -= min(left, 40_000) { // what is left for the last one is a record, too
				is(t, expectAppend(t, d, q, strings.Repeat("v", min(left, 40_000)-headSize)), api.OK)
			}
			is(t, d.Len(), maxLog-x.room)
			safe := d.Safe()
			is(t, expectAppend(t, d, q, strings.Repeat("w", x.size)), x.want)
			is(t, d.Len(), q.len())
			is(t, d.Safe(), safe)
			if x.room == 8 {
				expectSame(t, d, q)
			}
		}
	}
}

// P16.2, P16.3, P16.5: there is room again behind Tear, if not all bytes are safe, and behind Save.
func TestRoomAgain(t *testing.T) {
	for _, sync := range []bool{false, true} {
		d, p := filled(t, 0, sync)
		c, q := d.Copy(), p.copy()
		is(t, expectAppend(t, d, p, ""), api.ErrFull)
		expectTear(t, d, p, maxLog-1)
		want := api.OK
		if sync {
			want = api.ErrFull
		}
		is(t, expectAppend(t, d, p, ""), want)
		expectSame(t, d, p)
		is(t, expectAppend(t, c, q, ""), api.ErrFull)
		is(t, expectSave(t, c, q, "s"), api.OK)
		is(t, expectAppend(t, c, q, strings.Repeat("v", maxText)), api.OK)
		expectSame(t, c, q)
	}
}

// P16.2, P16.4: as many records as there can be.
func TestManyRecords(t *testing.T) {
	d := disk.New()
	for n := range maxLog / headSize {
		if e := d.Append(nil); e != api.OK {
			t.Fatalf("Append of no bytes behind %d records: %d", n, e)
		}
	}
	is(t, d.Append(nil), api.ErrFull)
	is(t, d.Len(), maxLog)
	is(t, d.Safe(), 0)
	is(t, len(d.Records()), maxLog/headSize)
	d.Tear(maxLog - 1)
	is(t, d.Len(), maxLog-headSize)
	is(t, d.Safe(), maxLog-headSize)
	is(t, len(d.Records()), maxLog/headSize-1)
}

// P16.2: Sync makes all bytes safe, also those of the records before, and nothing else; a second one changes nothing.
func TestSync(t *testing.T) {
	kinds(t, func(d *disk.Disk, p *plain) {
		before := records(d)
		for range 2 {
			expectSync(t, d, p)
			is(t, d.Safe(), d.Len())
			is(t, list(records(d)), list(before))
			for _, left := range lefts {
				expectTear(t, d, p, left)
			}
		}
	})
}

// P16.3: of what is not safe, any number of bytes may stay; records that are not whole then are gone.
func TestTear(t *testing.T) {
	kinds(t, func(d *disk.Disk, p *plain) {
		some := slices.Clone(lefts)
		for left := -1; left <= d.Len()+1 && left < 200; left++ {
			some = append(some, left)
		}
		for around := -9; around <= 9; around++ {
			some = append(some, d.Len()-d.Safe()+around)
		}
		for _, left := range some {
			c, q := d.Copy(), p.copy()
			expectTear(t, c, q, left)
			is(t, c.Safe(), c.Len())
			expectAppend(t, c, q, "behind") // what was torn does not come back
			expectSame(t, c, q)
			expectTear(t, c, q, 13)
		}
		expectSame(t, d, p)
	})
}

// P16.3: records of MaxText bytes that are torn.
func TestTearLong(t *testing.T) {
	const size = headSize + maxText
	for _, left := range []int{0, 1, 8, 9, size - 1, size, size + 1, size + 8, 2*size - 1, 2 * size, 2*size + 1} {
		d, p := disk.New(), &plain{}
		expectAppend(t, d, p, strings.Repeat("u", maxText))
		expectSync(t, d, p)
		expectAppend(t, d, p, strings.Repeat("v", maxText))
		expectAppend(t, d, p, strings.Repeat("w", maxText))
		expectTear(t, d, p, left)
		is(t, d.Len(), size*(1+min(left/size, 2)))
	}
}

// P16.3: records inside a content, and whole ones behind one that is torn, are none of the log's.
func TestTearInside(t *testing.T) {
	inner := record("a") + record("") + record("b")
	for left := range len(inner) + 2*headSize + 2 {
		for _, sync := range []bool{false, true} {
			d, p := disk.New(), &plain{}
			expectAppend(t, d, p, inner)
			if sync {
				expectSync(t, d, p)
			}
			expectAppend(t, d, p, inner)
			expectAppend(t, d, p, "")
			expectTear(t, d, p, left)
		}
	}
}

// P16.6: behind Tear there are the records up to the last Sync, Save or Tear, and a beginning of the others, the longer the
// more bytes are left; the snapshot is as it was.
func TestTearKeeps(t *testing.T) {
	for seed := range int64(60) {
		r := rand.New(rand.NewSource(seed))
		d, p := disk.New(), &plain{}
		course(t, r, d, p, 25)
		d.Sync()
		safe := records(d)
		state, saved := d.Snapshot()
		var behind []string
		for n := range r.Intn(6) {
			behind = append(behind, strings.Repeat("x", r.Intn(9)+n))
			is(t, d.Append([]byte(behind[n])), api.OK)
		}
		all, had := slices.Concat(safe, behind), len(safe)
		for left := range d.Len() - d.Safe() + 2 {
			c := d.Copy()
			c.Tear(left)
			got := records(c)
			if len(got) < had || len(got) > had+1 || !slices.Equal(got, all[:len(got)]) {
				t.Fatalf("Tear(%d): behind %d records,%s; of%s, of which %d are safe", left, had, list(got), list(all), len(safe))
			}
			had = len(got)
			stateThen, savedThen := c.Snapshot()
			is(t, string(stateThen), string(state))
			is(t, savedThen, saved)
		}
		is(t, had, len(all))
	}
}

// P16.8: if all bytes are safe, Tear changes nothing; so a second one does not, whatever it leaves.
func TestTearAgain(t *testing.T) {
	kinds(t, func(d *disk.Disk, p *plain) {
		for _, first := range []int{-1, 0, 8, 9, 11, 18, 1 << 20} {
			c, q := d.Copy(), p.copy()
			expectTear(t, c, q, first)
			want := q.copy()
			for _, left := range lefts {
				c.Tear(left)
				expectSame(t, c, want)
			}
		}
		d.Sync()
		p.sync()
		for _, left := range lefts {
			d.Tear(left)
			expectSame(t, d, p)
		}
	})
}

// P16.5: the snapshot is the state, of any bytes up to MaxText, also of none; the log has no bytes. What is torn then, or
// written, does not change it.
func TestSave(t *testing.T) {
	kinds(t, func(d *disk.Disk, p *plain) {
		for _, state := range []string{"", "s", "\x00", "another state", record("a"), strings.Repeat("v", maxText)} {
			c, q := d.Copy(), p.copy()
			is(t, expectSave(t, c, q, state), api.OK)
			is(t, c.Len(), 0)
			is(t, c.Safe(), 0)
			is(t, len(c.Records()), 0)
			expectSame(t, c, q)
			for _, left := range []int{0, -1, 5, 1 << 20} {
				expectTear(t, c, q, left)
			}
			expectAppend(t, c, q, "y")
			is(t, c.Len(), 9)
			is(t, c.Safe(), 0)
			expectTear(t, c, q, 8)
			expectAppend(t, c, q, "z")
			expectSync(t, c, q)
			is(t, expectSave(t, c, q, "s"), api.OK)
			expectSame(t, c, q)
		}
		expectSame(t, d, p)
	})
}

// P16.5, R7: a state that is longer than MaxText is refused, and changes nothing.
func TestSaveLong(t *testing.T) {
	kinds(t, func(d *disk.Disk, p *plain) {
		for _, n := range []int{maxText + 1, maxText + 2, 2 * maxText, maxLog + 1} {
			is(t, d.Save(make([]byte, n)), api.ErrLong)
			expectSame(t, d, p)
		}
	})
}

// P16.5, R3: a state that is nil is one of no bytes.
func TestSaveNil(t *testing.T) {
	for _, state := range [][]byte{nil, {}} {
		d := disk.New()
		is(t, d.Save(state), api.OK)
		expectSame(t, d, &plain{saved: true})
		is(t, d.Append(state), api.OK)
		expectSame(t, d, &plain{contents: []string{""}, saved: true})
		expectSame(t, d.Copy(), &plain{contents: []string{""}, saved: true})
	}
}

// P16.1 to P16.6: all courses of up to five calls out of some, with a copy that stays as it was.
func TestShortCourses(t *testing.T) {
	calls := []func(d *disk.Disk, p *plain){
		func(d *disk.Disk, p *plain) { expectAppend(t, d, p, "a") },
		func(d *disk.Disk, p *plain) { expectAppend(t, d, p, "bcd") },
		func(d *disk.Disk, p *plain) { expectSync(t, d, p) },
		func(d *disk.Disk, p *plain) { expectTear(t, d, p, 0) },
		func(d *disk.Disk, p *plain) { expectTear(t, d, p, 10) },
		func(d *disk.Disk, p *plain) { expectTear(t, d, p, 20) },
		func(d *disk.Disk, p *plain) { expectSave(t, d, p, fmt.Sprint("state ", d.Len())) },
	}
	var goOn func(d *disk.Disk, p *plain, n int)
	goOn = func(d *disk.Disk, p *plain, n int) {
		expectSame(t, d, p)
		if n == 5 {
			return
		}
		for _, call := range calls {
			c, q := d.Copy(), p.copy()
			call(c, q)
			goOn(c, q, n+1)
		}
		expectSame(t, d, p)
	}
	goOn(disk.New(), &plain{}, 0)
}

// course does a number of calls of all kinds, of which some are not allowed.
func course(t *testing.T, r *rand.Rand, d *disk.Disk, p *plain, n int) {
	t.Helper()
	for range n {
		text := make([]byte, r.Intn(4)*r.Intn(12))
		r.Read(text)
		switch k := r.Intn(20); {
		case k < 3:
			expectSync(t, d, p)
		case k == 3:
			left := lefts[r.Intn(len(lefts))]
			expectTear(t, d, p, left)
		case k < 6:
			expectTear(t, d, p, r.Intn(40))
		case k == 6:
			expectSave(t, d, p, string(text))
		case k == 7:
			expectAppend(t, d, p, strings.Repeat("v", maxText+1))
			expectSave(t, d, p, strings.Repeat("v", maxText+1))
		default:
			expectAppend(t, d, p, string(text))
		}
	}
}

// P16.1 to P16.7: long courses of calls, with copies of which one goes on.
func TestLongCourses(t *testing.T) {
	for seed := range int64(200) {
		r := rand.New(rand.NewSource(seed))
		d, p := disk.New(), &plain{}
		for range 10 {
			c, q := d.Copy(), p.copy()
			course(t, r, c, q, 1+r.Intn(12))
			expectSame(t, c, q)
			expectSame(t, d, p)
			course(t, r, d, p, r.Intn(5))
			expectSame(t, d, p)
			expectSame(t, c, q)
			if r.Intn(2) == 0 {
				d, p = c, q
			}
		}
	}
}

// R2: a disk that New did not make is not valid, for calls of all kinds and before all other errors.
func TestNotValid(t *testing.T) {
	for _, d := range []*disk.Disk{nil, {}, new(disk.Disk)} {
		for range 2 {
			for _, n := range []int{0, 1, maxText, maxText + 1} {
				is(t, d.Append(make([]byte, n)), api.ErrNil)
				is(t, d.Save(make([]byte, n)), api.ErrNil)
			}
			d.Sync()
			for _, left := range lefts {
				d.Tear(left)
			}
			is(t, len(d.Records()), 0)
			is(t, d.Safe(), 0)
			is(t, d.Len(), 0)
			state, saved := d.Snapshot()
			is(t, len(state), 0)
			is(t, saved, false)
			is(t, d.Copy(), nil)
		}
	}
}

// P16.7, R4: what was given is not changed, and can be changed; what stands behind its length is not read.
func TestArguments(t *testing.T) {
	d, p := disk.New(), &plain{}
	room := []byte("abcdefgh")
	is(t, d.Append(room[:3]), api.OK)
	is(t, p.append("abc"), api.OK)
	is(t, string(room), "abcdefgh")
	clear(room)
	expectSame(t, d, p)
	room = []byte("stuvwxyz")
	is(t, d.Save(room[:3]), api.OK)
	is(t, p.save("stu"), api.OK)
	is(t, string(room), "stuvwxyz")
	clear(room)
	expectSame(t, d, p)
	is(t, d.Append(room[:2]), api.OK)
	is(t, p.append("\x00\x00"), api.OK)
	room[0] = 'z'
	expectSame(t, d, p)
}

// spoil changes all bytes that some memory has, also those behind its length.
func spoil(b []byte) {
	b = b[:cap(b)]
	for i := range b {
		b[i] ^= 0xA5
	}
}

// P16.7, R4: what was returned is new memory, also behind its length, and can be changed.
func TestResults(t *testing.T) {
	kinds(t, func(d *disk.Disk, p *plain) {
		c := d.Copy()
		l, again, others := d.Records(), d.Records(), c.Records()
		state, _ := d.Snapshot()
		stateAgain, _ := d.Snapshot()
		want := slices.Clone(state)
		for i := range l {
			spoil(l[i])
			for k := range l {
				if k > i && string(l[k]) != p.contents[k] || string(again[k]) != p.contents[k] || string(others[k]) != p.contents[k] {
					t.Errorf("record %d shares memory with record %d", k, i)
				}
			}
		}
		spoil(state)
		if !bytes.Equal(stateAgain, want) {
			t.Error("snapshots share memory")
		}
		clear(again[:cap(again)])
		expectSame(t, d, p)
		expectSame(t, c, p)
	})
}

// P16.7: what was returned stays as it is, whatever becomes of the disk.
func TestResultsStay(t *testing.T) {
	kinds(t, func(d *disk.Disk, p *plain) {
		l := d.Records()
		state, _ := d.Snapshot()
		d.Tear(0)
		for range 3 {
			is(t, d.Append([]byte("zzzzzzzzzzzz")), api.OK)
		}
		is(t, d.Save([]byte("yyyyyyyyyyyy")), api.OK)
		is(t, d.Append([]byte("xxxxxxxxxxxx")), api.OK)
		for i, content := range l {
			is(t, string(content), p.contents[i])
		}
		is(t, string(state), p.snapshot)
	})
}

// R8: disks in equal states answer equally, whatever led there.
func TestSameAgain(t *testing.T) {
	lead := []func(d *disk.Disk){
		func(d *disk.Disk) {
			d.Save([]byte("s"))
			d.Append([]byte("a"))
			d.Sync()
		},
		func(d *disk.Disk) {
			d.Append([]byte("a"))
			d.Save(nil)
			d.Append([]byte("b"))
			d.Save([]byte("s"))
			d.Append([]byte("a"))
			d.Append([]byte("torn"))
			d.Tear(9)
		},
		func(d *disk.Disk) {
			d.Save([]byte("s"))
			d.Append([]byte("a"))
			d.Append([]byte("torn"))
			d.Tear(20)
		},
	}
	for _, do := range lead {
		d, p := disk.New(), &plain{contents: []string{"a"}, safe: 1, snapshot: "s", saved: true}
		do(d)
		for _, d := range []*disk.Disk{d, d.Copy()} {
			expectSame(t, d, p)
			q := p.copy()
			course(t, rand.New(rand.NewSource(1)), d, q, 60)
			expectSame(t, d, q)
		}
	}
}

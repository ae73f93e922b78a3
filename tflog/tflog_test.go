package tflog

import (
	"encoding/binary"
	"fmt"
	"hash/crc32"
	"maps"
	"math"
	"slices"
	"strconv"
	"strings"
	"testing"

	"annalist/api"
	"annalist/disk"
)

// x is a text of n bytes.
func x(n int) string { return strings.Repeat("x", n) }

// laid is the bytes of a payload's record, put by the library, however long the payload is.
func laid(payload string) string {
	b := binary.BigEndian.AppendUint32(nil, uint32(len(payload)))
	b = append(b, payload...)
	b = binary.LittleEndian.AppendUint32(b, crc32.ChecksumIEEE(b))
	return string(binary.BigEndian.AppendUint32(b, uint32(len(payload))))
}

// all are the records of payloads, one behind the other.
func all(payloads ...string) string {
	var b strings.Builder
	for _, p := range payloads {
		b.WriteString(laid(p))
	}
	return b.String()
}

// head is the head of the chunk n, put by the library.
func head(n int) string {
	b := binary.BigEndian.AppendUint32([]byte("chnk"), uint32(n))
	return string(binary.LittleEndian.AppendUint32(b, crc32.ChecksumIEEE(b)))
}

// named is the name of the chunk n.
func named(n int) string { return fmt.Sprintf("c%06d", n) }

// short is what a failure tells of a text.
func short(s string) string {
	if len(s) <= 60 {
		return strconv.Quote(s)
	}
	return strconv.Quote(s[:60]) + " of " + strconv.Itoa(len(s)) + " bytes"
}

// made is a new disk.
func made(t *testing.T, capacity int) *disk.Disk {
	t.Helper()
	d, e := disk.New(capacity)
	if d == nil || e != api.OK {
		t.Fatalf("disk.New(%d): %v, %v", capacity, d, e)
	}
	return d
}

// lay puts a file on a disk, with bytes that are sure and bytes that are not.
func lay(t *testing.T, d *disk.Disk, name, sure, rest string) {
	t.Helper()
	for _, e := range []api.Errno{d.Create(name), d.Append(name, sure), d.Sync(name), d.Append(name, rest)} {
		if e != api.OK {
			t.Fatalf("the file %q is not laid: %v", name, e)
		}
	}
}

// files are all files of a disk, with their bytes; reads are counted by the disk.
func files(t *testing.T, d *disk.Disk) map[string]string {
	t.Helper()
	m := map[string]string{}
	for _, name := range d.Names() {
		n, e := d.Size(name)
		is(t, "Size", e, api.OK)
		m[name], e = d.Read(name, 0, n)
		is(t, "Read", e, api.OK)
	}
	return m
}

// laidOut is a disk with files, all of them sure.
func laidOut(t *testing.T, capacity int, m map[string]string) *disk.Disk {
	t.Helper()
	d := made(t, capacity)
	for _, name := range slices.Sorted(maps.Keys(m)) {
		lay(t, d, name, m[name], "")
	}
	return d
}

// has holds a disk's files against those that are asked for.
func has(t *testing.T, what string, d *disk.Disk, want map[string]string) {
	t.Helper()
	got := files(t, d)
	for _, name := range slices.Sorted(maps.Keys(got)) {
		if s, ok := want[name]; !ok || s != got[name] {
			t.Errorf("%s: the file %s is %s, not %s (%v)", what, name, short(got[name]), short(s), ok)
		}
	}
	for _, name := range slices.Sorted(maps.Keys(want)) {
		if _, ok := got[name]; !ok {
			t.Errorf("%s: the file %s is not there", what, name)
		}
	}
}

// is holds an error against the one that is asked for.
func is(t *testing.T, what string, got, want api.Errno) {
	t.Helper()
	if got != want {
		t.Errorf("%s: %v, not %v", what, got, want)
	}
}

// opened is the log of a disk.
func opened(t *testing.T, d *disk.Disk) *Log {
	t.Helper()
	l, e := Open(d)
	if l == nil || e != api.OK {
		t.Fatalf("Open: %v, %v", l, e)
	}
	return l
}

// refuses asks Open for an error, and no log.
func refuses(t *testing.T, what string, d *disk.Disk, want api.Errno) {
	t.Helper()
	if l, e := Open(d); l != nil || e != want {
		t.Errorf("%s: Open: %v, %v, not %v", what, l, e, want)
	}
}

// puts asks Append for a place.
func puts(t *testing.T, l *Log, payload string, want int) {
	t.Helper()
	if pos, e := l.Append(payload); pos != want || e != api.OK {
		t.Errorf("Append(%s): %d, %v, not %d", short(payload), pos, e, want)
	}
}

// putsNot asks Append for an error.
func putsNot(t *testing.T, l *Log, payload string, want api.Errno) {
	t.Helper()
	if pos, e := l.Append(payload); pos != 0 || e != want {
		t.Errorf("Append(%s): %d, %v, not %v", short(payload), pos, e, want)
	}
}

// reads asks Read for a payload, and so many reads of the disk.
func reads(t *testing.T, l *Log, pos int, want string, asked int) {
	t.Helper()
	ahead := l.disk.Reads()
	if s, e := l.Read(pos); s != want || e != api.OK {
		t.Errorf("Read(%d): %s, %v, not %s", pos, short(s), e, short(want))
	}
	if n := l.disk.Reads() - ahead; n != asked {
		t.Errorf("Read(%d): %d reads, not %d", pos, n, asked)
	}
}

// readsNot asks Read for ErrNone, and so many reads of the disk.
func readsNot(t *testing.T, l *Log, pos, asked int) {
	t.Helper()
	ahead := l.disk.Reads()
	if s, e := l.Read(pos); s != "" || e != api.ErrNone {
		t.Errorf("Read(%d): %s, %v", pos, short(s), e)
	}
	if n := l.disk.Reads() - ahead; n != asked {
		t.Errorf("Read(%d): %d reads, not %d", pos, n, asked)
	}
}

// goes asks Next for a record, and so many reads of the disk.
func goes(t *testing.T, l *Log, pos int, payload string, at, next, asked int) {
	t.Helper()
	ahead := l.disk.Reads()
	if s, i, k, e := l.Next(pos); s != payload || i != at || k != next || e != api.OK {
		t.Errorf("Next(%d): %s, %d, %d, %v, not %s, %d, %d", pos, short(s), i, k, e, short(payload), at, next)
	}
	if n := l.disk.Reads() - ahead; n != asked {
		t.Errorf("Next(%d): %d reads, not %d", pos, n, asked)
	}
}

// goesNot asks Next for ErrNone, and so many reads of the disk.
func goesNot(t *testing.T, l *Log, pos, asked int) {
	t.Helper()
	ahead := l.disk.Reads()
	if s, i, k, e := l.Next(pos); s != "" || i != 0 || k != 0 || e != api.ErrNone {
		t.Errorf("Next(%d): %s, %d, %d, %v", pos, short(s), i, k, e)
	}
	if n := l.disk.Reads() - ahead; n != asked {
		t.Errorf("Next(%d): %d reads, not %d", pos, n, asked)
	}
}

// ends holds End and Sure against what is asked for.
func ends(t *testing.T, what string, l *Log, end, sure int) {
	t.Helper()
	if l.End() != end || l.Sure() != sure {
		t.Errorf("%s: End %d, Sure %d, not %d, %d", what, l.End(), l.Sure(), end, sure)
	}
}

// changes is how many changes of the disk a call makes, each time on a disk as build tells it.
func changes(t *testing.T, build func() *disk.Disk, do func(d *disk.Disk)) int {
	t.Helper()
	for n := range 100 {
		d := build()
		is(t, "Fail", d.Fail(n, nil), api.OK)
		do(d)
		if d.Up() {
			return n
		}
	}
	t.Error("there is no end of changes")
	return -1
}

// numbers are whole numbers at which something may run over.
func numbers() []int {
	return []int{math.MinInt, math.MinInt + 1, math.MinInt32, -1 << 32, -8192, -4097, -4096, -4095, -4084, -13, -12, -2, -1, 200 * 4096, 200*4096 + 12, 1 << 20, math.MaxInt32, 1 << 32, 1<<32 + 12, math.MaxInt - 4096, math.MaxInt - 12, math.MaxInt - 1, math.MaxInt}
}

// some is a log of a disk of 60000 bytes, with two records in its first chunk, two in the next one, and three in the last one, of which the last one has no bytes; and their places.
func some(t *testing.T) (l *Log, d *disk.Disk, places []int) {
	t.Helper()
	d = made(t, 60000)
	l = opened(t, d)
	places = []int{12, 2024, 4108, 6113, 8204, 9216, 9230}
	for i, p := range somePayloads() {
		puts(t, l, p, places[i])
	}
	return l, d, places
}

func somePayloads() []string {
	return []string{strings.Repeat("a", 2000), strings.Repeat("b", 2000), strings.Repeat("c", 1990) + "uvw", strings.Repeat("d", 1500), strings.Repeat("e", 1000), "fg", ""}
}

// The example of the chapter.
func TestExample(t *testing.T) {
	l := opened(t, made(t, 20000))
	puts(t, l, "ab", 12)
	puts(t, l, "c", 26)
	ends(t, "two records", l, 39, 0)
	reads(t, l, 12, "ab", 2)
	readsNot(t, l, 13, 1)
	goes(t, l, 13, "c", 26, 39, 1)
	is(t, "Flush", l.Flush(), api.OK)
	ends(t, "Flush", l, 39, 39)
	putsNot(t, l, x(2001), api.ErrLong)
	puts(t, l, x(2000), 39)
	puts(t, l, x(2000), 2051)
	puts(t, l, x(2000), 4108)
	ends(t, "five records", l, 6120, 4063)
}

// A log that is over

// overs are ways for a log of some to be over, and what End and Sure stay at.
func overs(t *testing.T) []func() (l *Log, end, sure int) {
	crashed := func() (*Log, *disk.Disk) {
		l, d, _ := some(t)
		is(t, "Crash", d.Crash([]int{0, 0, 1030}), api.OK)
		return l, d
	}
	failed := func(n int, do func(l *Log, d *disk.Disk) api.Errno) *Log {
		l, d, _ := some(t)
		is(t, "Fail", d.Fail(n, []int{0, 0, 1050, 12}), api.OK)
		is(t, "what fails", do(l, d), api.ErrDown)
		return l
	}
	started := func(l *Log) *Log {
		is(t, "Start", l.disk.Start(), api.OK)
		return l
	}
	put := func(l *Log, _ *disk.Disk) api.Errno {
		_, e := l.Append("ab")
		return e
	}
	anew := func(l *Log, d *disk.Disk) api.Errno {
		l.Append(x(2000))
		_, e := l.Append(x(2000))
		return e
	}
	flush := func(l *Log, _ *disk.Disk) api.Errno { return l.Flush() }
	create := func(_ *Log, d *disk.Disk) api.Errno { return d.Create("x") }
	return []func() (l *Log, end, sure int){
		func() (*Log, int, int) { l, _ := crashed(); return l, 9242, 7625 },
		func() (*Log, int, int) { l, _ := crashed(); return started(l), 9242, 7625 },
		func() (*Log, int, int) {
			l, d := crashed()
			started(l)
			is(t, "Crash", d.Crash(nil), api.OK)
			return l, 9242, 7625
		},
		func() (*Log, int, int) {
			l, d := crashed()
			started(l)
			other := opened(t, d)
			puts(t, other, "other", 9216)
			is(t, "Flush", other.Flush(), api.OK)
			return l, 9242, 7625
		},
		func() (*Log, int, int) { return failed(0, put), 9242, 7625 },
		func() (*Log, int, int) { return started(failed(0, put)), 9242, 7625 },
		func() (*Log, int, int) { return failed(0, flush), 9242, 7625 },
		func() (*Log, int, int) { return started(failed(0, flush)), 9242, 7625 },
		func() (*Log, int, int) { return failed(0, create), 9242, 7625 },
		func() (*Log, int, int) { return started(failed(0, create)), 9242, 7625 },
		func() (*Log, int, int) { return started(failed(1, anew)), 11254, 7625 },
		func() (*Log, int, int) { return started(failed(2, anew)), 11254, 11254 },
		func() (*Log, int, int) { return started(failed(3, anew)), 11254, 11254 },
	}
}

// down asks each call of a log for ErrDown, and nothing beside it.
func down(t *testing.T, what string, l *Log) {
	t.Helper()
	for _, p := range []string{"", "a", x(2000), x(2001), x(5000)} {
		putsNot(t, l, p, api.ErrDown)
	}
	is(t, what+": Flush", l.Flush(), api.ErrDown)
	for _, pos := range append(numbers(), 0, 11, 12, 13, 2024, 4108, 8204, 9216, 9230, 9242) {
		if s, e := l.Read(pos); s != "" || e != api.ErrDown {
			t.Errorf("%s: Read(%d): %s, %v", what, pos, short(s), e)
		}
		if s, at, next, e := l.Next(pos); s != "" || at != 0 || next != 0 || e != api.ErrDown {
			t.Errorf("%s: Next(%d): %s, %d, %d, %v", what, pos, short(s), at, next, e)
		}
	}
}

func TestOver(t *testing.T) {
	for i, over := range overs(t) {
		l, end, sure := over()
		what, d := fmt.Sprint("way ", i), l.disk
		free, count, names, asked := d.Free(), d.Unsynced(), d.Names(), d.Reads()
		d.Fail(0, nil)
		up := d.Up()
		for range 2 {
			down(t, what, l)
			ends(t, what, l, end, sure)
		}
		if d.Free() != free || !slices.Equal(d.Unsynced(), count) || !slices.Equal(d.Names(), names) || d.Reads() != asked || d.Up() != up {
			t.Errorf("%s: something was done", what)
		}
		d.Start()
		opened(t, laidOut(t, 60000, files(t, d)))
	}
}

// A log whose disk stays up is not over, whatever else is told, and whatever other logs are opened.
func TestNotOver(t *testing.T) {
	l, d, _ := some(t)
	putsNot(t, l, x(2001), api.ErrLong)
	readsNot(t, l, 13, 1)
	goesNot(t, l, 9231, 1)
	is(t, "Start", d.Start(), api.ErrArg)
	is(t, "Create", d.Create("c000000"), api.ErrHave)
	is(t, "Fail", d.Fail(5, nil), api.OK)
	opened(t, d)
	puts(t, l, "a", 9242)
	is(t, "Flush", l.Flush(), api.OK)
	reads(t, l, 9242, "a", 2)
	goes(t, l, 9231, "a", 9242, 9255, 1)
}

// A disk that was down and up ahead of the Open is no matter.
func TestOpenBehindStarts(t *testing.T) {
	d := made(t, 60000)
	for n := range 5 {
		l := opened(t, d)
		puts(t, l, "a", 12+13*n)
		is(t, "Flush", l.Flush(), api.OK)
		is(t, "Crash", d.Crash(nil), api.OK)
		is(t, "Start", d.Start(), api.OK)
	}
}

// P12.7

func TestNone(t *testing.T) {
	l, _, _ := some(t)
	copied := *l
	for i, none := range []*Log{nil, {}, new(Log), &copied} {
		for _, p := range []string{"", "a", x(2000), x(2001)} {
			putsNot(t, none, p, api.ErrNil)
		}
		is(t, "Flush", none.Flush(), api.ErrNil)
		for _, pos := range append(numbers(), 0, 12, 2024) {
			if s, e := none.Read(pos); s != "" || e != api.ErrNil {
				t.Errorf("none %d: Read(%d): %s, %v", i, pos, short(s), e)
			}
			if s, at, next, e := none.Next(pos); s != "" || at != 0 || next != 0 || e != api.ErrNil {
				t.Errorf("none %d: Next(%d): %s, %d, %d, %v", i, pos, short(s), at, next, e)
			}
		}
		ends(t, "none", none, 0, 0)
	}
	ends(t, "the one that was copied", l, 9242, 7625)
	puts(t, l, "a", 9242)
}

package ptables

import (
	"encoding/binary"
	"fmt"
	"hash/crc32"
	"maps"
	"math"
	"math/rand"
	"slices"
	"strconv"
	"strings"
	"testing"

	"annalist/api"
	"annalist/blooms"
	"annalist/disk"
	"annalist/pages"
	"annalist/rates"
)

// at is an entry, shortly.
func at(hash uint64, version, pos int) api.Entry {
	return api.Entry{Hash: hash, Version: version, Pos: pos}
}

// show is entries as a failure tells them, no more than some of them.
func show(l ...api.Entry) string {
	var b strings.Builder
	for i, e := range l {
		if i == 8 {
			return b.String() + ".. (" + strconv.Itoa(len(l)) + ")"
		}
		b.WriteString("[" + strconv.FormatUint(e.Hash, 10) + " " + strconv.Itoa(e.Version) + " " + strconv.Itoa(e.Pos) + "]")
	}
	return b.String()
}

// number is an entry's bytes, by the library; of one that may be these stand to each other as the entries do.
func number(e api.Entry) string {
	b := binary.BigEndian.AppendUint64(nil, e.Hash)
	b = binary.BigEndian.AppendUint64(b, uint64(e.Version))
	return string(binary.BigEndian.AppendUint64(b, uint64(e.Pos)))
}

// sorted is entries in order, each once.
func sorted(l []api.Entry) []api.Entry {
	slices.SortFunc(l, func(a, b api.Entry) int { return strings.Compare(number(a), number(b)) })
	return slices.Compact(l)
}

// laid is the bytes of a table's file, by the library.
func laid(l []api.Entry) string {
	s := string(binary.BigEndian.AppendUint32([]byte("ptab"), uint32(len(l))))
	for _, e := range l {
		s += number(e)
	}
	return string(binary.LittleEndian.AppendUint32([]byte(s), crc32.ChecksumIEEE([]byte(s))))
}

// filtered is the bytes of the filter's file, as the chapter's words have it.
func filtered(l []api.Entry, rate float64) string {
	once := map[uint64]bool{}
	for _, e := range l {
		once[e.Hash] = true
	}
	hashes := slices.Collect(maps.Keys(once))
	probes := rates.Probes(rate)
	return pages.Put(blooms.Make(hashes, probes, 480*rates.Pages(len(hashes), probes)), probes)
}

// one is n entries of one hash, with the versions from 0 on.
func one(hash uint64, n int) []api.Entry {
	var l []api.Entry
	for v := range n {
		l = append(l, at(hash, v, 12+20*v))
	}
	return l
}

// wide is n entries of n hashes.
func wide(n int) []api.Entry {
	var l []api.Entry
	for i := range n {
		l = append(l, at(uint64(i)*0x9e3779b97f4a7c15, i, i))
	}
	return sorted(l)
}

// edges is entries of numbers that stand at ends, in order; some have versions above MaxVersion.
func edges() []api.Entry {
	var l []api.Entry
	for _, h := range []uint64{0, 1, 1<<63 - 1, 1 << 63, math.MaxUint64 - 1, math.MaxUint64} {
		for _, v := range []int{0, 1, api.MaxVersion - 1, api.MaxVersion, api.MaxVersion + 1, math.MaxInt} {
			for _, p := range []int{0, 1, math.MaxInt} {
				l = append(l, at(h, v, p))
			}
		}
	}
	return l
}

// drawn is at most n entries of few hashes, versions and places, in order, each once.
func drawn(r *rand.Rand, n int) []api.Entry {
	l := make([]api.Entry, n)
	for i := range l {
		l[i] = at(2*uint64(r.Intn(6))<<(r.Intn(2)*60), r.Intn(1+n/4), r.Intn(4))
	}
	return sorted(l)
}

// inRange is the entries that Range is to tell, one by one.
func inRange(l []api.Entry, hash uint64, from, to int) []api.Entry {
	var told []api.Entry
	for _, e := range l {
		if e.Hash == hash && e.Version >= from && e.Version <= to && e.Version <= api.MaxVersion {
			told = append(told, e)
		}
	}
	return told
}

// made is a new disk.
func made(t *testing.T, capacity int) *disk.Disk {
	t.Helper()
	d, e := disk.New(capacity)
	if d == nil || e != api.OK {
		t.Fatalf("disk.New(%d): %v, %v", capacity, d, e)
	}
	return d
}

// lays puts a file on a disk, in the place of one that was; its bytes are sure.
func lays(t *testing.T, d *disk.Disk, name, s string) {
	t.Helper()
	d.Delete(name)
	for _, e := range []api.Errno{d.Create(name), d.Append(name, s), d.Sync(name)} {
		is(t, "lay the file "+strconv.Quote(name), e, api.OK)
	}
}

// files are all files of a disk, with their bytes.
func files(t *testing.T, d *disk.Disk) map[string]string {
	t.Helper()
	m := map[string]string{}
	for _, name := range d.Names() {
		n, e := d.Size(name)
		is(t, "Size", e, api.OK)
		m[name], e = d.Read(name, 0, n)
		is(t, "Read", e, api.OK)
	}
	return m
}

// has holds a disk's files against some, all of them sure.
func has(t *testing.T, what string, d *disk.Disk, want map[string]string) {
	t.Helper()
	if got := files(t, d); !maps.Equal(got, want) {
		t.Fatalf("%s: the disk has %.300q, not %.300q", what, got, want)
	}
	for i, n := range d.Unsynced() {
		if n != 0 {
			t.Fatalf("%s: %d bytes of %q are not sure", what, n, d.Names()[i])
		}
	}
}

// is holds an error against the one that is to be.
func is(t *testing.T, what string, got, want api.Errno) {
	t.Helper()
	if got != want {
		t.Fatalf("%s: %v, not %v", what, got, want)
	}
}

// tableOn is a table, laid on a new disk and opened.
func tableOn(t *testing.T, l []api.Entry, rate float64) (*disk.Disk, *Table) {
	t.Helper()
	d := made(t, api.MaxDisk)
	is(t, "Write", Write(d, 0, l, rate), api.OK)
	return d, opened(t, d, 0)
}

// opened is a table of a disk.
func opened(t *testing.T, d *disk.Disk, n int) *Table {
	t.Helper()
	x, e := Open(d, n)
	if x == nil || e != api.OK {
		t.Fatalf("Open of table %d: %v, %v", n, x, e)
	}
	return x
}

// refuses holds what Open tells against an error.
func refuses(t *testing.T, what string, d *disk.Disk, n int, want api.Errno) {
	t.Helper()
	if x, e := Open(d, n); x != nil || e != want {
		t.Fatalf("Open of %s, number %d: %v, %v, not %v", what, n, x, e, want)
	}
}

// ranges holds what Range tells against the entries that are to be.
func ranges(t *testing.T, x *Table, hash uint64, from, to int, want []api.Entry) {
	t.Helper()
	if got, e := x.Range(hash, from, to); e != api.OK || !slices.Equal(got, want) {
		t.Fatalf("Range(%d, %d, %d) of %d entries: %s, %v, not %s", hash, from, to, x.Len(), show(got...), e, show(want...))
	}
}

// lasts holds what Last tells against the last one of the entries that are to be.
func lasts(t *testing.T, x *Table, hash uint64, upto int, l []api.Entry) {
	t.Helper()
	var want api.Entry
	if len(l) > 0 {
		want = l[len(l)-1]
	}
	if got, ok, e := x.Last(hash, upto); e != api.OK || ok != (len(l) > 0) || got != want {
		t.Fatalf("Last(%d, %d) of %d entries: %s, %v, %v, not %s, %v", hash, upto, x.Len(), show(got), ok, e, show(want), len(l) > 0)
	}
}

// alls holds what All tells against the entries that are to be.
func alls(t *testing.T, x *Table, want []api.Entry) {
	t.Helper()
	if got, e := x.All(); e != api.OK || !slices.Equal(got, want) {
		t.Fatalf("All: %s, %v, not %s", show(got...), e, show(want...))
	}
}

// fails holds what Range, Last and All tell against an error.
func fails(t *testing.T, what string, x *Table, hash uint64, version int, want api.Errno) {
	t.Helper()
	if l, e := x.Range(hash, version, version); e != want || len(l) > 0 {
		t.Fatalf("%s: Range(%d, %d, %d): %s, %v, not %v", what, hash, version, version, show(l...), e, want)
	}
	if one, ok, e := x.Last(hash, version); e != want || ok || one != (api.Entry{}) {
		t.Fatalf("%s: Last(%d, %d): %s, %v, %v, not %v", what, hash, version, show(one), ok, e, want)
	}
	if l, e := x.All(); e != want || len(l) > 0 {
		t.Fatalf("%s: All: %s, %v, not %v", what, show(l...), e, want)
	}
}

// asked is hashes that some entries have, and those beside them.
func asked(l []api.Entry) []uint64 {
	once := map[uint64]bool{0: true, 1: true, math.MaxUint64: true}
	for _, e := range l {
		once[e.Hash-1], once[e.Hash], once[e.Hash+1] = true, true, true
	}
	return slices.Sorted(maps.Keys(once))
}

// versions is versions that some entries have, those beside them, and some at ends.
func versions(l []api.Entry) []int {
	once := map[int]bool{-1: true, 0: true, api.MaxVersion: true, math.MaxInt: true, math.MinInt: true}
	for _, e := range l {
		once[e.Version-1], once[e.Version] = true, true
		if e.Version < math.MaxInt {
			once[e.Version+1] = true
		}
	}
	return slices.Sorted(maps.Keys(once))
}

// answers holds all that a table tells against its entries, and how often it is read against the bounds.
func answers(t *testing.T, d *disk.Disk, x *Table, l []api.Entry) {
	t.Helper()
	some := versions(l)
	for _, h := range asked(l) {
		for i, from := range some {
			for _, to := range some[max(i-1, 0):] {
				want := inRange(l, h, from, to)
				ahead := d.Reads()
				ranges(t, x, h, from, to, want)
				if n := d.Reads() - ahead; n > 5+len(want) || n > 0 && !x.May(h) {
					t.Fatalf("Range(%d, %d, %d) of %d entries: %d reads", h, from, to, len(l), n)
				}
			}
			ahead := d.Reads()
			lasts(t, x, h, from, inRange(l, h, 0, from))
			if n := d.Reads() - ahead; n > 5 || n > 0 && !x.May(h) {
				t.Fatalf("Last(%d, %d) of %d entries: %d reads", h, from, len(l), n)
			}
		}
	}
	ahead := d.Reads()
	alls(t, x, l)
	if d.Reads()-ahead != 1 {
		t.Fatalf("All of %d entries: %d reads", len(l), d.Reads()-ahead)
	}
}

// P19.1

func TestWrite(t *testing.T) {
	r := rand.New(rand.NewSource(191))
	lists := [][]api.Entry{nil, {}, {at(5, 0, 7)}, one(9, 100), wide(100), wide(400), edges(), drawn(r, 50)}
	for i, rate := range []float64{0.01, 0.5, 1, 0, -1, 2, 0.00001, math.NaN(), math.Inf(1), math.Inf(-1), math.Copysign(0, -1)} {
		for j, l := range lists {
			n := []int{0, 1, 12, 999998, 999999}[(i+j)%5]
			d := made(t, 100000)
			lays(t, d, "map", "abc")
			is(t, "Write", Write(d, n, l, rate), api.OK)
			if d.Reads() != 0 {
				t.Fatalf("Write: %d reads", d.Reads())
			}
			has(t, "Write", d, map[string]string{"map": "abc", fmt.Sprintf("t%06d", n): laid(l), fmt.Sprintf("b%06d", n): filtered(l, rate)})
		}
	}
}

func TestWriteOfOneEntryHasTheseBytes(t *testing.T) {
	d := made(t, 10000)
	is(t, "Write", Write(d, 3, []api.Entry{at(5, 0, 7)}, 1), api.OK)
	seal := func(s string) string {
		return string(binary.LittleEndian.AppendUint32([]byte(s), crc32.ChecksumIEEE([]byte(s))))
	}
	has(t, "Write", d, map[string]string{
		"t000003": seal("ptab\x00\x00\x00\x01" + "\x00\x00\x00\x00\x00\x00\x00\x05" + "\x00\x00\x00\x00\x00\x00\x00\x00" + "\x00\x00\x00\x00\x00\x00\x00\x07"),
		"b000003": seal("blm\x01\x00\x00\x00\x3c"+strings.Repeat("\x00", 52)) + seal("\x20"+strings.Repeat("\x00", 59)),
	})
}

// TestWriteCountsHashesOnce has more pages, if entries are counted.
func TestWriteCountsHashesOnce(t *testing.T) {
	var l []api.Entry
	for h := range uint64(3) {
		l = append(l, one(h, 300)...)
	}
	d := made(t, 100000)
	is(t, "Write", Write(d, 0, l, 0.01), api.OK)
	if n, _ := d.Size("b000000"); n != 128 {
		t.Errorf("the filter of 3 hashes has %d bytes", n)
	}
	is(t, "Write", Write(d, 1, wide(900), 0.01), api.OK)
	if n, _ := d.Size("b000001"); n != 64*(1+20) {
		t.Errorf("the filter of 900 hashes has %d bytes", n)
	}
}

// TestWriteOfWhatMayNotBe has each wrong thing on a disk that is up, down, without room, and none: the first error is that of the arguments.
func TestWriteOfWhatMayNotBe(t *testing.T) {
	good := one(5, 3)
	down, full, used := made(t, 20000), made(t, 0), made(t, 20000)
	is(t, "Crash", down.Crash(nil), api.OK)
	lays(t, used, "t000000", "abc")
	lays(t, used, "b000000", "def")
	for _, d := range []*disk.Disk{nil, {}, down, full, used} {
		for _, n := range []int{-1, -2, 1000000, 1000001, math.MinInt, math.MaxInt} {
			is(t, "Write of the number "+strconv.Itoa(n), Write(d, n, good, 0.01), api.ErrArg)
			is(t, "Write of the number "+strconv.Itoa(n), Write(d, n, nil, 0.01), api.ErrArg)
		}
		for _, l := range [][]api.Entry{
			{good[1], good[0]}, {good[0], good[0]}, {at(5, -1, 0)}, {at(5, 0, -1)}, {at(4, math.MinInt, 0), good[0]},
			{good[0], good[1], at(6, 0, math.MinInt)}, {at(1<<63, 0, 0), at(1, 0, 0)}, append(one(5, 30), at(5, 29, 0)),
		} {
			was := slices.Clone(l)
			is(t, "Write of "+show(l...), Write(d, 0, l, 0.01), api.ErrArg)
			if !slices.Equal(l, was) {
				t.Fatalf("Write changed %s to %s", show(was...), show(l...))
			}
		}
	}
	has(t, "Write of what may not be", full, nil)
	has(t, "Write of what may not be", used, map[string]string{"t000000": "abc", "b000000": "def"})
}

func TestWriteOnDisksThatAreNone(t *testing.T) {
	d := made(t, 20000)
	copied := *d
	for _, none := range []*disk.Disk{nil, {}, &copied} {
		is(t, "Write", Write(none, 0, one(5, 3), 0.01), api.ErrNil)
		is(t, "Write", Write(none, 0, nil, 0.01), api.ErrNil)
		is(t, "Drop", Drop(none, 0), api.ErrNil)
		is(t, "Drop", Drop(none, -1), api.ErrNil)
		refuses(t, "a disk that is none", none, 0, api.ErrNil)
		refuses(t, "a disk that is none", none, -1, api.ErrNil)
	}
	has(t, "none", d, nil)
}

func TestWriteOnDisksThatAreDown(t *testing.T) {
	for _, capacity := range []int{0, 20000} {
		d := made(t, capacity)
		is(t, "Crash", d.Crash(nil), api.OK)
		is(t, "Write", Write(d, 0, one(5, 3), 0.01), api.ErrDown)
		is(t, "Write", Write(d, 0, nil, 0.01), api.ErrDown)
		is(t, "Drop", Drop(d, 0), api.ErrDown)
		is(t, "Drop", Drop(d, -1), api.ErrDown)
		refuses(t, "a disk that is down", d, 0, api.ErrDown)
		refuses(t, "a disk that is down", d, -1, api.ErrDown)
		is(t, "Start", d.Start(), api.OK)
		has(t, "down", d, nil)
	}
}

func TestWriteWithoutRoom(t *testing.T) {
	for _, l := range [][]api.Entry{nil, one(5, 1), one(5, 40), wide(100)} {
		needs := len(laid(l)) + len(filtered(l, 0.01))
		for _, more := range []int{-7000, -needs - 1, -needs, -3000, -1, 0, 1, 5000} {
			d := made(t, 7000+needs+more)
			lays(t, d, "map", "")
			d.Append("map", strings.Repeat("x", min(1000, d.Free())))
			d.Sync("map")
			was, want := files(t, d), api.ErrFull
			if more >= 0 {
				want = api.OK
				was["t000007"], was["b000007"] = laid(l), filtered(l, 0.01)
			}
			is(t, fmt.Sprintf("Write of %d entries with %d bytes more than it needs", len(l), more), Write(d, 7, l, 0.01), want)
			has(t, "Write", d, was)
		}
	}
}

// TestWriteOverFiles has one file of the table there already: what was there stays.
func TestWriteOverFiles(t *testing.T) {
	for _, name := range []string{"t000004", "b000004"} {
		for _, s := range []string{"", "abc", laid(one(5, 3)), filtered(one(5, 3), 0.01)} {
			d := made(t, 20000)
			lays(t, d, name, s)
			is(t, "Write over "+name, Write(d, 4, one(5, 3), 0.01), api.ErrHave)
			if got := files(t, d); got[name] != s {
				t.Fatalf("Write over %s: it has %q, not %q", name, got[name], s)
			}
			is(t, "Write beside", Write(d, 5, one(5, 3), 0.01), api.OK)
		}
	}
	d := made(t, 20000)
	is(t, "Write", Write(d, 4, one(5, 3), 0.01), api.OK)
	is(t, "Write again", Write(d, 4, one(6, 3), 0.01), api.ErrHave)
	has(t, "Write again", d, map[string]string{"t000004": laid(one(5, 3)), "b000004": filtered(one(5, 3), 0.01)})
}

// TestWriteOfOneFileTooMany goes on when there is room for both files again.
func TestWriteOfOneFileTooMany(t *testing.T) {
	for _, many := range []int{398, 399, 400} {
		d := made(t, 20000)
		for i := range many {
			lays(t, d, "f"+strconv.Itoa(i), "")
		}
		e := Write(d, 4, one(5, 3), 0.01)
		if many == 398 {
			is(t, "Write", e, api.OK)
			continue
		}
		is(t, "Write", e, api.ErrFull)
		for i := range 2 {
			is(t, "Delete", d.Delete("f"+strconv.Itoa(i)), api.OK)
		}
		is(t, "Write with room", Write(d, 4, one(5, 3), 0.01), api.OK)
		opened(t, d, 4)
	}
}

// TestWriteThatFails crashes at each change, with whatever is left: the filter is laid first, and whole where there is anything of a table.
func TestWriteThatFails(t *testing.T) {
	l := wide(30)
	table, filter := laid(l), filtered(l, 0.01)
	for n := range 6 {
		for _, keep := range [][]int{nil, {5, 5}, {math.MaxInt, math.MaxInt}, {math.MaxInt, 100}, {-1}} {
			d := made(t, 20000)
			is(t, "Fail", d.Fail(n, keep), api.OK)
			is(t, "Write", Write(d, 2, l, 0.01), api.ErrDown)
			if d.Up() {
				t.Fatalf("behind %d changes the disk is up", n)
			}
			is(t, "Start", d.Start(), api.OK)
			got := files(t, d)
			_, hasTable := got["t000002"]
			_, hasFilter := got["b000002"]
			if hasFilter != (n > 0) || hasTable != (n > 3) || hasTable && got["b000002"] != filter {
				t.Fatalf("behind %d changes the disk has %q", n, got)
			}
			if !strings.HasPrefix(table, got["t000002"]) || !strings.HasPrefix(filter, got["b000002"]) {
				t.Fatalf("behind %d changes the disk has %q", n, got)
			}
			is(t, "Drop", Drop(d, 2), api.OK)
			has(t, "Drop", d, nil)
		}
	}
	d := made(t, 20000)
	is(t, "Fail", d.Fail(6, nil), api.OK)
	is(t, "Write", Write(d, 2, l, 0.01), api.OK)
	is(t, "the seventh change", d.Create("x"), api.ErrDown)
	is(t, "Start", d.Start(), api.OK)
	has(t, "six changes", d, map[string]string{"t000002": table, "b000002": filter})
}

func TestWriteLeavesEntriesAsTheyWere(t *testing.T) {
	l := edges()
	d, x := tableOn(t, l, 0.01)
	if !slices.Equal(l, edges()) {
		t.Fatal("Write changed entries")
	}
	for i := range l {
		l[i] = at(1, 2, 3)
	}
	alls(t, x, edges())
	answers(t, d, opened(t, d, 0), edges())
}

func TestDrop(t *testing.T) {
	rest := map[string]string{"t000001": "a", "b000001": "b", "t000003": "c", "c000002": "d", "map": "e", "new": "f"}
	for _, there := range [][]string{nil, {"t000002"}, {"b000002"}, {"t000002", "b000002"}} {
		for _, s := range []string{"", "xyz", laid(one(5, 3))} {
			d := made(t, 20000)
			for name, s := range rest {
				lays(t, d, name, s)
			}
			for _, name := range there {
				lays(t, d, name, s)
			}
			is(t, "Drop", Drop(d, 2), api.OK)
			if d.Reads() != 0 {
				t.Fatal("Drop reads")
			}
			has(t, "Drop", d, rest)
			for _, n := range []int{2, -1, 1000000, 1000001, math.MinInt, math.MaxInt} {
				is(t, "Drop of nothing", Drop(d, n), api.OK)
			}
			has(t, "Drop of nothing", d, rest)
		}
	}
}

func TestDropThatFails(t *testing.T) {
	for n := range 3 {
		for _, left := range []int{0, 1} {
			d := made(t, 20000)
			is(t, "Write", Write(d, 2, one(5, 3), 0.01), api.OK)
			if left == 1 {
				is(t, "Delete", d.Delete("b000002"), api.OK)
			}
			is(t, "Fail", d.Fail(n, nil), api.OK)
			want := api.ErrDown
			if n >= 2-left {
				want = api.OK
			}
			is(t, "Drop", Drop(d, 2), want)
			d.Start()
			if many := len(d.Names()); many != max(2-left-n, 0) {
				t.Fatalf("behind %d changes there are %d files", n, many)
			}
		}
	}
}

// P19.2

func TestOpen(t *testing.T) {
	r := rand.New(rand.NewSource(192))
	for i, l := range [][]api.Entry{nil, one(5, 1), one(5, 7), one(5, 8), one(5, 9), wide(200), edges(), drawn(r, 60)} {
		d := made(t, api.MaxDisk)
		for _, n := range []int{i, 999999 - i} {
			is(t, "Write", Write(d, n, l, 0.01), api.OK)
			was, ahead := files(t, d), d.Reads()
			x := opened(t, d, n)
			if x.Len() != len(l) || x.Number() != n {
				t.Fatalf("Len, Number of %d entries with the number %d: %d, %d", len(l), n, x.Len(), x.Number())
			}
			if many := d.Reads() - ahead; many > 2 {
				t.Fatalf("Open: %d reads", many)
			}
			has(t, "Open", d, was)
		}
	}
}

func TestOpenOfWhatIsNoTable(t *testing.T) {
	d := made(t, api.MaxDisk)
	for _, n := range []int{0, -1, 1000000, math.MinInt, math.MaxInt} {
		refuses(t, "a new disk", d, n, api.ErrTable)
	}
	l := one(5, 3)
	is(t, "Write", Write(d, 1, l, 0.01), api.OK)
	for _, n := range []int{0, 2, 10, 100001, -1, 1000001} {
		refuses(t, "another number", d, n, api.ErrTable)
	}
	whole := laid(l)
	for _, s := range []string{"", "ptab", whole + "x", "x" + whole, whole + whole, laid([]api.Entry{l[1], l[0]}), laid([]api.Entry{l[0], l[0]}), laid([]api.Entry{at(5, -1, 0)}), laid([]api.Entry{at(5, 0, -1)}), filtered(l, 0.01)} {
		lays(t, d, "t000001", s)
		refuses(t, strconv.Quote(s), d, 1, api.ErrTable)
	}
	for i := range len(whole) {
		lays(t, d, "t000001", whole[:i])
		refuses(t, "a table cut off", d, 1, api.ErrTable)
		for _, bit := range []byte{1, 16, 128} {
			lays(t, d, "t000001", whole[:i]+string([]byte{whole[i] ^ bit})+whole[i+1:])
			refuses(t, "a table with another byte", d, 1, api.ErrTable)
		}
	}
	lays(t, d, "t000001", whole)
	alls(t, opened(t, d, 1), l)
	is(t, "Delete", d.Delete("t000001"), api.OK)
	refuses(t, "a filter alone", d, 1, api.ErrTable)
}

func TestMay(t *testing.T) {
	for _, rate := range []float64{1, 0.5, 0.1, 0.01, 0, math.NaN()} {
		for _, l := range [][]api.Entry{one(5, 1), one(5, 30), wide(100), edges()} {
			d, x := tableOn(t, l, rate)
			f := pages.Load(files(t, d)["b000000"])
			kept := 0
			for i := range uint64(2000) {
				h := i * 0x9e3779b97f4a7c35
				if x.May(h) != pages.May(f, h) {
					t.Fatalf("May(%d) is %v", h, x.May(h))
				}
				if !x.May(h) {
					kept++
				}
			}
			if kept == 0 {
				t.Fatalf("rate %v, %d entries: no hash is kept out", rate, len(l))
			}
			for _, e := range l {
				if !x.May(e.Hash) {
					t.Fatalf("May(%d) is false", e.Hash)
				}
			}
		}
	}
}

func TestMayOfTablesWithoutEntries(t *testing.T) {
	d, x := tableOn(t, nil, 0.01)
	keepsOut := func(x *Table) {
		t.Helper()
		for _, h := range []uint64{0, 1, 5, 479, 480, 1 << 63, math.MaxUint64} {
			if x.May(h) {
				t.Fatalf("May(%d) of a table without entries", h)
			}
		}
		answers(t, d, x, nil)
	}
	keepsOut(x)
	lays(t, d, "b000000", filtered(wide(30), 1))
	keepsOut(opened(t, d, 0))
	is(t, "Delete", d.Delete("b000000"), api.OK)
	keepsOut(opened(t, d, 0))
}

// TestFiltersOfOthers has filters that are whole, but other tables': they hold only where they let each of the table's hashes through.
func TestFiltersOfOthers(t *testing.T) {
	l := wide(20)
	for n, c := range []struct {
		of    []api.Entry
		holds bool
	}{{l, true}, {sorted(append(wide(20), edges()...)), true}, {one(l[3].Hash, 5), false}, {l[1:], false}, {l[:19], false}, {nil, false}} {
		d, _ := tableOn(t, l, 0.01)
		lays(t, d, "b000000", filtered(c.of, 0.0001))
		ahead := d.Reads()
		x := opened(t, d, 0)
		if d.Reads()-ahead > 2 {
			t.Fatalf("Open: %d reads", d.Reads()-ahead)
		}
		f := pages.Load(filtered(c.of, 0.0001))
		for i := range uint64(500) {
			h := i * 0x9e3779b97f4a7c35
			if want := !c.holds || pages.May(f, h); x.May(h) != want {
				t.Fatalf("filter %d: May(%d) is %v", n, h, x.May(h))
			}
		}
		answers(t, d, x, l)
	}
}

func TestFiltersThatCannotBeRead(t *testing.T) {
	l := wide(20)
	whole := filtered(l, 0.01)
	for _, s := range []string{"-", "", "x", "blm", whole[:63], "\x00" + whole, "B" + whole[1:], laid(l), strings.Repeat("\x00", 200)} {
		d, _ := tableOn(t, l, 0.01)
		lays(t, d, "b000000", s)
		if s == "-" {
			is(t, "Delete", d.Delete("b000000"), api.OK)
		}
		ahead := d.Reads()
		x := opened(t, d, 0)
		if d.Reads()-ahead > 2 {
			t.Fatalf("Open: %d reads", d.Reads()-ahead)
		}
		for i := range uint64(500) {
			if !x.May(i * 0x9e3779b97f4a7c35) {
				t.Fatalf("the filter %.20q keeps %d out", s, i)
			}
		}
		answers(t, d, x, l)
	}
}

// TestFiltersOfWhichAPageIsSpoilt still keep out by the other pages.
func TestFiltersOfWhichAPageIsSpoilt(t *testing.T) {
	l := wide(200)
	whole := filtered(l, 0.01)
	for page := 1; page < len(whole)/64; page++ {
		for _, s := range []string{whole[:64*page] + "x" + whole[64*page+1:], whole[:64*page], whole[:64*page+63]} {
			d, _ := tableOn(t, l, 0.01)
			lays(t, d, "b000000", s)
			x, f := opened(t, d, 0), pages.Load(s)
			for i := range uint64(300) {
				h := i * 0x9e3779b97f4a7c35
				if x.May(h) != pages.May(f, h) {
					t.Fatalf("page %d is spoilt: May(%d) is %v", page, h, x.May(h))
				}
			}
			for _, e := range l {
				ranges(t, x, e.Hash, 0, api.MaxVersion, inRange(l, e.Hash, 0, api.MaxVersion))
			}
		}
	}
}

// TestFiltersSpoiltWhileOpen change nothing any more.
func TestFiltersSpoiltWhileOpen(t *testing.T) {
	l := wide(30)
	d, x := tableOn(t, l, 0.01)
	f := pages.Load(files(t, d)["b000000"])
	for _, spoil := range []func() api.Errno{
		func() api.Errno { return d.Spoil("b000000", 0, strings.Repeat("\x00", 500)) },
		func() api.Errno { return d.Cut("b000000", 64) },
		func() api.Errno { return d.Delete("b000000") },
	} {
		is(t, "spoil", spoil(), api.OK)
		for i := range uint64(300) {
			h := i * 0x9e3779b97f4a7c35
			if x.May(h) != pages.May(f, h) {
				t.Fatalf("May(%d) is %v", h, x.May(h))
			}
		}
		answers(t, d, x, l)
	}
}

func TestTablesThatAreNone(t *testing.T) {
	_, x := tableOn(t, one(5, 3), 0.01)
	copied := *x
	for _, none := range []*Table{nil, {}, &copied} {
		if none.Len() != 0 || none.Number() != 0 || none.May(5) || none.May(0) {
			t.Errorf("a table that is none: %d, %d, %v", none.Len(), none.Number(), none.May(5))
		}
		fails(t, "a table that is none", none, 5, 0, api.ErrNil)
		fails(t, "a table that is none", none, 0, -1, api.ErrNil)
		if l, e := none.Range(5, 9, 0); e != api.ErrNil || len(l) > 0 {
			t.Errorf("Range of a table that is none: %s, %v", show(l...), e)
		}
	}
	alls(t, x, one(5, 3))
}

// P19.3

func TestExamples(t *testing.T) {
	e := at(5, 0, 7)
	_, x := tableOn(t, []api.Entry{e}, 0.01)
	ranges(t, x, 5, 0, 9, []api.Entry{e})
	lasts(t, x, 5, 0, []api.Entry{e})
	lasts(t, x, 6, 9, nil)
}

// TestAnswers has tables of each size up to some, so that entries stand at all places among midpoints.
func TestAnswers(t *testing.T) {
	for n := range 40 {
		for _, l := range [][]api.Entry{one(5, n), wide(n)} {
			d, x := tableOn(t, l, 0.01)
			answers(t, d, x, l)
		}
	}
	r := rand.New(rand.NewSource(193))
	for range 60 {
		l := drawn(r, r.Intn(80))
		d, x := tableOn(t, l, []float64{1, 0.01, 0}[r.Intn(3)])
		answers(t, d, x, l)
	}
}

func TestAnswersOfEdges(t *testing.T) {
	l := edges()
	for _, some := range [][]api.Entry{l, l[1:], l[:len(l)-1], l[5:60], l[20:37]} {
		d, x := tableOn(t, some, 0.01)
		answers(t, d, x, some)
	}
}

// TestVersionsAboveTheGreatestAreNotTold has entries of versions that no event has: All alone tells them.
func TestVersionsAboveTheGreatestAreNotTold(t *testing.T) {
	l := []api.Entry{at(5, api.MaxVersion-1, 1), at(5, api.MaxVersion, 2), at(5, api.MaxVersion+1, 3), at(5, math.MaxInt, 4), at(6, api.MaxVersion+1, 5)}
	_, x := tableOn(t, l, 0.01)
	for _, to := range []int{api.MaxVersion, api.MaxVersion + 1, math.MaxInt - 1, math.MaxInt} {
		ranges(t, x, 5, 0, to, l[:2])
		ranges(t, x, 5, api.MaxVersion, to, l[1:2])
		ranges(t, x, 5, api.MaxVersion+1, to, nil)
		ranges(t, x, 5, math.MaxInt, to, nil)
		ranges(t, x, 6, 0, to, nil)
		lasts(t, x, 5, to, l[:2])
		lasts(t, x, 6, to, nil)
	}
	ranges(t, x, 5, math.MinInt, math.MaxInt, l[:2])
	lasts(t, x, 5, api.MaxVersion-1, l[:1])
	alls(t, x, l)
}

func TestRangesWhoseEndsAreTurnedAbout(t *testing.T) {
	_, x := tableOn(t, one(5, 40), 0.01)
	for _, from := range []int{0, 1, 7, 8, 9, 39, 40, math.MaxInt} {
		for _, to := range []int{-1, 0, 6, 7, 8, 38, math.MinInt} {
			if from > to {
				ranges(t, x, 5, from, to, nil)
			}
		}
	}
}

func TestAnswersOfADiskThatIsDown(t *testing.T) {
	for _, l := range [][]api.Entry{one(5, 20), nil} {
		d, x := tableOn(t, l, 0.01)
		is(t, "Crash", d.Crash(nil), api.OK)
		ahead := d.Reads()
		fails(t, "down", x, 5, 3, api.ErrDown)
		fails(t, "down", x, 6, 3, api.ErrDown)
		fails(t, "down", x, 5, -1, api.ErrDown)
		if d.Reads() != ahead || x.Len() != len(l) || x.May(5) != (len(l) > 0) || x.May(6) {
			t.Fatalf("down: %d, %v, %v", x.Len(), x.May(5), x.May(6))
		}
		is(t, "Start", d.Start(), api.OK)
		answers(t, d, x, l)
	}
}

func TestAnswersOfTablesThatAreGone(t *testing.T) {
	l := one(5, 20)
	d, x := tableOn(t, l, 0.01)
	is(t, "Delete", d.Delete("t000000"), api.OK)
	fails(t, "deleted", x, 5, 3, api.ErrTable)
	lays(t, d, "t000000", laid(l))
	answers(t, d, x, l)
	for _, n := range []int{0, 7, 8, 31, 8 + 3*24} {
		is(t, "Cut", d.Cut("t000000", n), api.OK)
		fails(t, "cut off", x, 5, 3, api.ErrTable)
		lays(t, d, "t000000", laid(l))
	}
	*d = disk.Disk{}
	fails(t, "a disk that is none", x, 5, 3, api.ErrTable)
}

// TestAnswersOfEntriesThatAreNone spoils each entry: who is told of it is told ErrTable, and who is told of one that is far from it is told that one.
func TestAnswersOfEntriesThatAreNone(t *testing.T) {
	l := one(5, 60)
	for i := range l {
		for _, field := range []int{8, 16} {
			d, x := tableOn(t, l, 0.01)
			is(t, "Spoil", d.Spoil("t000000", 8+24*i+field, "\x80"), api.OK)
			fails(t, "spoilt", x, 5, i, api.ErrTable)
			if got, e := x.Range(5, 0, 59); e != api.ErrTable || len(got) > 0 {
				t.Fatalf("Range of a spoilt table: %s, %v", show(got...), e)
			}
			for v := range l {
				if v < i-16 || v > i+16 {
					ranges(t, x, 5, v, v, l[v:v+1])
					lasts(t, x, 5, v, l[v:v+1])
				}
			}
		}
	}
}

// TestAnswersAreTheirOwn writes into what was told, and asks again.
func TestAnswersAreTheirOwn(t *testing.T) {
	l := one(5, 20)
	d, x := tableOn(t, l, 0.01)
	for range 2 {
		all, _ := x.All()
		some, _ := x.Range(5, 0, 99)
		for i := range all {
			all[i], some[i] = at(9, 9, 9), at(8, 8, 8)
		}
	}
	answers(t, d, x, l)
}

// P19.4

// TestReads counts in tables that are large: the bounds do not grow with them.
func TestReads(t *testing.T) {
	for _, l := range [][]api.Entry{one(5, 5000), wide(5000), append(one(5, 2500), one(6, 2500)...)} {
		d, x := tableOn(t, l, 0.5)
		for i := 0; i < len(l); i += 7 {
			e := l[i]
			want := inRange(l, e.Hash, e.Version, e.Version+3)
			ahead := d.Reads()
			ranges(t, x, e.Hash, e.Version, e.Version+3, want)
			if n := d.Reads() - ahead; n > 5+len(want) {
				t.Fatalf("Range: %d reads", n)
			}
			ahead = d.Reads()
			lasts(t, x, e.Hash, e.Version, want[:1])
			lasts(t, x, e.Hash, e.Version-1, inRange(l, e.Hash, 0, e.Version-1))
			if n := d.Reads() - ahead; n > 10 {
				t.Fatalf("two Lasts: %d reads", n)
			}
		}
	}
}

// TestWhereMayIsFalseNothingIsRead asks for hashes that no entry has, most of which are kept out.
func TestWhereMayIsFalseNothingIsRead(t *testing.T) {
	d, x := tableOn(t, wide(100), 0.01)
	kept := 0
	for i := range uint64(1000) {
		h := 3 + i*0x9e3779b97f4a7c35
		ahead := d.Reads()
		ranges(t, x, h, 0, api.MaxVersion, nil)
		lasts(t, x, h, api.MaxVersion, nil)
		if !x.May(h) {
			kept++
			if d.Reads() != ahead {
				t.Fatalf("of %d, which is kept out, %d reads", h, d.Reads()-ahead)
			}
		}
	}
	if kept < 900 {
		t.Fatalf("only %d of 1000 are kept out", kept)
	}
}

// TestFiltersChangeNoAnswer opens a table with filters that are spoilt at random, and whole ones of other tables.
func TestFiltersChangeNoAnswer(t *testing.T) {
	r := rand.New(rand.NewSource(194))
	for range 150 {
		l := drawn(r, r.Intn(40))
		rate := []float64{1, 0.1, 0.001}[r.Intn(3)]
		d, _ := tableOn(t, l, rate)
		switch r.Intn(4) {
		case 0:
			lays(t, d, "b000000", filtered(drawn(r, r.Intn(40)), rate))
		case 1:
			is(t, "Cut", d.Cut("b000000", r.Intn(200)), api.OK)
		default:
			for range 1 + r.Intn(5) {
				is(t, "Spoil", d.Spoil("b000000", r.Intn(128), string([]byte{byte(r.Intn(256))})), api.OK)
			}
		}
		answers(t, d, opened(t, d, 0), l)
	}
}

func TestAskingChangesNoFile(t *testing.T) {
	l := edges()
	d, x := tableOn(t, l, 0.01)
	was := files(t, d)
	answers(t, d, x, l)
	has(t, "asking", d, was)
}

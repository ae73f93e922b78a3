package index

import (
	"encoding/binary"
	"fmt"
	"hash/crc32"
	"maps"
	"math"
	"math/rand"
	"slices"
	"strconv"
	"strings"
	"testing"

	"annalist/api"
	"annalist/blooms"
	"annalist/disk"
	"annalist/pages"
	"annalist/rates"
	"annalist/tflog"
)

// rate is that of most indexes here.
const rate = 0.01

// at is an entry, shortly.
func at(hash uint64, version, pos int) api.Entry {
	return api.Entry{Hash: hash, Version: version, Pos: pos}
}

// of is a manifest, shortly.
func of(next, check int, seed uint64, levels ...[]int) api.Manifest {
	return api.Manifest{Next: next, Check: check, Seed: seed, Levels: levels}
}

// row is so many numbers, from one on.
func row(from, n int) []int {
	var l []int
	for i := range n {
		l = append(l, from+i)
	}
	return l
}

// bare is a manifest without empty levels at the end.
func bare(m api.Manifest) api.Manifest {
	for len(m.Levels) > 0 && len(m.Levels[len(m.Levels)-1]) == 0 {
		m.Levels = m.Levels[:len(m.Levels)-1]
	}
	return m
}

// show is a manifest as a failure tells it; two are alike, if this is.
func show(m api.Manifest) string {
	return fmt.Sprintf("[Next %d, Check %d, Seed %d: %v]", m.Next, m.Check, m.Seed, m.Levels)
}

// short is entries as a failure tells them, no more than some of them.
func short(l []api.Entry) string {
	return fmt.Sprintf("%d entries, %v", len(l), l[:min(len(l), 8)])
}

// number is an entry's bytes, by the library; of one that may be these stand to each other as the entries do.
func number(e api.Entry) string {
	b := binary.BigEndian.AppendUint64(nil, e.Hash)
	b = binary.BigEndian.AppendUint64(b, uint64(e.Version))
	return string(binary.BigEndian.AppendUint64(b, uint64(e.Pos)))
}

// sorted is entries of some lists in order, each once.
func sorted(lists ...[]api.Entry) []api.Entry {
	l := slices.Concat(lists...)
	slices.SortFunc(l, func(a, b api.Entry) int { return strings.Compare(number(a), number(b)) })
	return slices.Compact(l)
}

// sealed is bytes with their sum, by the library.
func sealed(b []byte) string {
	return string(binary.LittleEndian.AppendUint32(b, crc32.ChecksumIEEE(b)))
}

// tabled is the bytes of a table's file, by the library.
func tabled(l []api.Entry) string {
	b := binary.BigEndian.AppendUint32([]byte("ptab"), uint32(len(l)))
	for _, e := range l {
		b = append(b, number(e)...)
	}
	return sealed(b)
}

// filtered is the bytes of the filter's file, as chapter 19 has it.
func filtered(l []api.Entry, rate float64) string {
	once := map[uint64]bool{}
	for _, e := range l {
		once[e.Hash] = true
	}
	probes := rates.Probes(rate)
	return pages.Put(blooms.Make(slices.Collect(maps.Keys(once)), probes, 480*rates.Pages(len(once), probes)), probes)
}

// mapped is the bytes of a manifest, by the library, without empty levels at the end.
func mapped(m api.Manifest) string {
	b := binary.BigEndian.AppendUint32([]byte("imap"), uint32(m.Next))
	b = binary.BigEndian.AppendUint32(b, uint32(m.Check))
	b = binary.BigEndian.AppendUint64(b, m.Seed)
	m = bare(m)
	b = append(b, byte(len(m.Levels)))
	for _, level := range m.Levels {
		b = append(b, byte(len(level)))
		for _, n := range level {
			b = binary.BigEndian.AppendUint32(b, uint32(n))
		}
	}
	return sealed(b)
}

// table and bloom are names of files.
func table(n int) string { return fmt.Sprintf("t%06d", n) }
func bloom(n int) string { return fmt.Sprintf("b%06d", n) }

// with is some files, with others in their places or beside them.
func with(files map[string]string, more ...string) map[string]string {
	m := maps.Clone(files)
	for i := 0; i < len(more); i += 2 {
		m[more[i]] = more[i+1]
	}
	return m
}

// withTable is some files, and those of a table.
func withTable(files map[string]string, n int, l []api.Entry) map[string]string {
	return with(files, table(n), tabled(l), bloom(n), filtered(l, rate))
}

// without is some files, but for these.
func without(files map[string]string, less ...string) map[string]string {
	m := maps.Clone(files)
	for _, name := range less {
		delete(m, name)
	}
	return m
}

// is holds an error against the one that is to be.
func is(t *testing.T, what string, got, want api.Errno) {
	t.Helper()
	if got != want {
		t.Fatalf("%s: %v, not %v", what, got, want)
	}
}

// made is a new disk, with some files, that are sure.
func made(t *testing.T, capacity int, with map[string]string) *disk.Disk {
	t.Helper()
	d, e := disk.New(capacity)
	if d == nil || e != api.OK {
		t.Fatalf("disk.New(%d): %v, %v", capacity, d, e)
	}
	for _, name := range slices.Sorted(maps.Keys(with)) {
		lays(t, d, name, with[name])
	}
	return d
}

// lays puts a file on a disk, in the place of one that was; its bytes are sure.
func lays(t *testing.T, d *disk.Disk, name, s string) {
	t.Helper()
	d.Delete(name)
	for _, e := range []api.Errno{d.Create(name), d.Append(name, s), d.Sync(name)} {
		is(t, "lay the file "+strconv.Quote(name), e, api.OK)
	}
}

// files are all files of a disk that is up, with their bytes.
func files(t *testing.T, d *disk.Disk) map[string]string {
	t.Helper()
	m := map[string]string{}
	for _, name := range d.Names() {
		n, e := d.Size(name)
		is(t, "Size", e, api.OK)
		m[name], e = d.Read(name, 0, n)
		is(t, "Read", e, api.OK)
	}
	return m
}

// has holds the files of a disk that is up against some, all of them sure.
func has(t *testing.T, what string, d *disk.Disk, want map[string]string) {
	t.Helper()
	if got := files(t, d); !maps.Equal(got, want) {
		t.Fatalf("%s: the disk has %.900q, not %.900q", what, got, want)
	}
	for i, n := range d.Unsynced() {
		if n != 0 {
			t.Fatalf("%s: %d bytes of %q are not sure", what, n, d.Names()[i])
		}
	}
}

// logged is the log of a disk, with so many records more, that are not sure.
func logged(t *testing.T, d *disk.Disk, n int) *tflog.Log {
	t.Helper()
	l, e := tflog.Open(d)
	is(t, "tflog.Open", e, api.OK)
	for range n {
		_, e := l.Append("a record")
		is(t, "tflog.Append", e, api.OK)
	}
	return l
}

// opened is the index of a manifest, the tables of which are whole.
func opened(t *testing.T, d *disk.Disk, m api.Manifest) *Index {
	t.Helper()
	x, e := Open(d, m, rate)
	if x == nil || e != api.OK {
		t.Fatalf("Open of %s: %v, %v", show(m), x, e)
	}
	return x
}

// refused holds what Open tells against an error, and nothing beside it.
func refused(t *testing.T, what string, d *disk.Disk, m api.Manifest, want api.Errno) {
	t.Helper()
	if x, e := Open(d, m, rate); x != nil || e != want {
		t.Fatalf("%s: Open of %s: %v, %v, not %v", what, show(m), x, e, want)
	}
}

// adds lays entries in an index's memory.
func adds(t *testing.T, x *Index, l ...api.Entry) {
	t.Helper()
	for _, e := range l {
		is(t, fmt.Sprint("Add of ", e), x.Add(e), api.OK)
	}
}

// inRange is the entries that Range is to tell of all, one by one.
func inRange(all []api.Entry, hash uint64, from, to int) []api.Entry {
	var told []api.Entry
	for _, e := range all {
		if e.Hash == hash && e.Version >= from && e.Version <= to && e.Version >= 0 && e.Version <= 1<<30 {
			told = append(told, e)
		}
	}
	return sorted(told)
}

// lastOf is the version that Last is to tell of all.
func lastOf(all []api.Entry, hash uint64, upto int) int {
	last := -1
	for _, e := range inRange(all, hash, 0, upto) {
		last = max(last, e.Version)
	}
	return last
}

// ends are versions that are asked for.
var ends = []int{math.MinInt, -1, 0, 1, 2, 3, 7, api.MaxVersion - 1, api.MaxVersion, api.MaxVersion + 1, math.MaxInt}

// hashesOf are hashes of some entries, and others.
func hashesOf(all []api.Entry) []uint64 {
	l := []uint64{0, 4, 1 << 63, math.MaxUint64}
	for _, e := range all {
		if !slices.Contains(l, e.Hash) && len(l) < 14 {
			l = append(l, e.Hash)
		}
	}
	return l
}

// answers holds what Range and Last tell against all that an index has.
func answers(t *testing.T, what string, x *Index, all []api.Entry) {
	t.Helper()
	for _, h := range hashesOf(all) {
		for _, to := range ends {
			for _, from := range ends {
				if l, e := x.Range(h, from, to); e != api.OK || !slices.Equal(l, inRange(all, h, from, to)) {
					t.Fatalf("%s: Range(%d, %d, %d): %s, %v, not %s", what, h, from, to, short(l), e, short(inRange(all, h, from, to)))
				}
			}
			if n, e := x.Last(h, to); e != api.OK || n != lastOf(all, h, to) {
				t.Fatalf("%s: Last(%d, %d): %d, %v, not %d", what, h, to, n, e, lastOf(all, h, to))
			}
		}
	}
}

// state holds an index's manifest, and how many entries are in memory, against what is to be.
func state(t *testing.T, what string, x *Index, m api.Manifest, waiting int) {
	t.Helper()
	if got := x.Manifest(); show(bare(got)) != show(bare(m)) {
		t.Fatalf("%s: the manifest is %s, not %s", what, show(got), show(m))
	}
	if n := x.Waiting(); n != waiting {
		t.Fatalf("%s: %d entries are in memory, not %d", what, n, waiting)
	}
}

// four are tables' entries: of few hashes, in more than one table, some of them in two, some with versions that are never told; the last table has none.
func four() [][]api.Entry {
	return [][]api.Entry{
		{at(1, 0, 12), at(1, 1, 30), at(3, 0, 50), at(math.MaxUint64, 0, 70)},
		{at(0, 0, 0), at(1, 1, 30), at(1, 2, 90), at(1, 2, 91), at(3, 1, 5), at(3, 2, 5), at(3, 3, 5), at(3, 4, 5), at(3, 5, 5), at(3, 6, 5), at(3, 7, 5), at(3, 8, 5)},
		{at(1<<63, 7, 9), at(1<<63, api.MaxVersion, 3), at(1<<63, api.MaxVersion+1, 3), at(1<<63, math.MaxInt, math.MaxInt)},
		nil,
	}
}

// fourth is a manifest of these, with the numbers 0, 1, 2 and 3, and a disk's files with them.
func fourth() (api.Manifest, map[string]string) {
	m := of(4, 77, 9, []int{0, 3}, nil, []int{2, 1})
	files := map[string]string{"map": mapped(m), "x": "another file"}
	for n, l := range four() {
		files = withTable(files, n, l)
	}
	return m, files
}

// wrong are manifests that may not be, each by one thing alone.
func wrong() []api.Manifest {
	return []api.Manifest{
		of(-1, 0, 0), of(1000001, 0, 0), of(0, -1, 0), of(0, 1<<31, 0), of(1, 0, 0, []int{1}), of(9, 0, 0, []int{-1}), of(9, 0, 0, []int{1}, []int{1}),
		of(99, 0, 0, row(0, 41)), of(9, 0, 0, nil, nil, nil, nil, nil, nil), of(math.MinInt, math.MaxInt, 0, []int{math.MinInt}, []int{math.MaxInt}),
	}
}

func TestExamples(t *testing.T) {
	d := made(t, 60000, nil)
	x := opened(t, d, api.Manifest{})
	adds(t, x, at(5, 0, 0))
	if l, e := x.Range(5, 0, 9); e != api.OK || !slices.Equal(l, []api.Entry{at(5, 0, 0)}) {
		t.Fatalf("Range: %v, %v", l, e)
	}
	is(t, "Flush", x.Flush(logged(t, d, 0)), api.OK)
	state(t, "Flush", x, of(1, 0, 0, []int{0}), 0)
	is(t, "Merge", x.Merge(0), api.OK)
	state(t, "Merge", x, of(2, 0, 0, nil, []int{1}), 0)
	is(t, "Merge again", x.Merge(0), api.ErrNone)
}

// P24.1

func TestOpen(t *testing.T) {
	m, had := fourth()
	for _, c := range []struct {
		m   api.Manifest
		all []api.Entry
	}{
		{api.Manifest{}, nil},
		{of(0, 0, 0, nil, nil), nil},
		{of(1000000, 1<<31-1, math.MaxUint64), nil},
		{of(9, 5, 0, []int{0}), four()[0]},
		{of(4, 0, 1, []int{}, []int{3}, []int{}), nil},
		{of(3, 0, 1, []int{2, 0}), sorted(four()[0], four()[2])},
		{of(4, 1, 2, nil, nil, nil, nil, []int{1, 3}), four()[1]},
		{m, sorted(four()...)},
		{of(4, 0, 0, []int{0, 1, 2, 3}), sorted(four()...)},
		{of(4, 0, 0, []int{3}, []int{2}, []int{1}, []int{0}), sorted(four()...)},
	} {
		d := made(t, 60000, had)
		x := opened(t, d, c.m)
		state(t, "Open", x, c.m, 0)
		answers(t, "Open of "+show(c.m), x, c.all)
		has(t, "Open", d, had)
	}
}

func TestOpenOfAnyRate(t *testing.T) {
	m, had := fourth()
	for _, rate := range []float64{0, 1, 0.5, -1, 1e-300, math.Inf(1), math.Inf(-1), math.NaN()} {
		d := made(t, 60000, had)
		x, e := Open(d, m, rate)
		is(t, "Open", e, api.OK)
		answers(t, "Open", x, sorted(four()...))
		l := []api.Entry{at(1, 8, 4), at(2, 0, 0)}
		adds(t, x, l...)
		is(t, "Flush", x.Flush(logged(t, d, 0)), api.OK)
		has(t, "Flush", d, with(had, table(4), tabled(l), bloom(4), filtered(l, rate), "map", mapped(of(5, 0, 9, []int{0, 3, 4}, nil, []int{2, 1}))))
		answers(t, "Flush", x, sorted(append(four(), l)...))
		is(t, "Merge", x.Merge(0), api.OK)
		answers(t, "Merge", x, sorted(append(four(), l)...))
		if s := files(t, d)[bloom(5)]; s != filtered(sorted(l, four()[0]), rate) {
			t.Fatalf("the rate %v: the filter is %q", rate, s)
		}
	}
}

// TestOpenReads has at most two reads for each table, up to the first one that is none.
func TestOpenReads(t *testing.T) {
	m, had := fourth()
	for i, n := range []int{0, 3, 2, 1} {
		d := made(t, 60000, had)
		is(t, "Spoil", d.Spoil(table(n), 5, "\xff"), api.OK)
		reads := d.Reads()
		refused(t, "a table is spoilt", d, m, api.ErrTable)
		if r := d.Reads() - reads; r < 2*i || r > 2*i+2 {
			t.Fatalf("the table %d is spoilt: %d reads", n, r)
		}
	}
	d := made(t, 60000, had)
	reads := d.Reads()
	opened(t, d, m)
	if r := d.Reads() - reads; r > 8 {
		t.Fatalf("four tables: %d reads", r)
	}
}

func TestOpenOfNoDisk(t *testing.T) {
	m, had := fourth()
	copied := *made(t, 60000, had)
	for _, d := range []*disk.Disk{nil, {}, &copied} {
		for _, m := range append(wrong(), api.Manifest{}, m) {
			refused(t, "no disk", d, m, api.ErrNil)
		}
	}
}

func TestOpenOfADiskThatIsDown(t *testing.T) {
	m, had := fourth()
	for _, capacity := range []int{0, 60000} {
		d := made(t, capacity, nil)
		if capacity > 0 {
			d = made(t, capacity, had)
		}
		is(t, "Crash", d.Crash(nil), api.OK)
		for _, m := range []api.Manifest{{}, m, of(9, 0, 0, []int{8})} {
			refused(t, "a disk that is down", d, m, api.ErrDown)
		}
		for _, m := range wrong() {
			refused(t, "a disk that is down", d, m, api.ErrArg)
		}
	}
}

func TestOpenOfManifestsThatMayNotBe(t *testing.T) {
	_, had := fourth()
	d := made(t, 60000, had)
	for _, m := range wrong() {
		was := show(m)
		refused(t, "a disk", d, m, api.ErrArg)
		if show(m) != was {
			t.Fatalf("Open changed the manifest %s", was)
		}
	}
	has(t, "Open", d, had)
}

func TestOpenOfSpoiltTables(t *testing.T) {
	m, had := fourth()
	for n := range 4 {
		s := had[table(n)]
		for _, less := range []map[string]string{without(had, table(n)), with(had, table(n), ""), with(had, table(n), s[:len(s)-1]), with(had, table(n), s+"x"), with(had, table(n), s[:9]+"\x01"+s[10:])} {
			d := made(t, 60000, less)
			refused(t, "a table is none", d, m, api.ErrTable)
			has(t, "Open", d, less)
			opened(t, d, of(4, 0, 0, slices.DeleteFunc(row(0, 4), func(i int) bool { return i == n })))
		}
	}
}

func TestOpenOfSpoiltFilters(t *testing.T) {
	m, had := fourth()
	for n := range 3 {
		s := had[bloom(n)]
		for _, less := range []map[string]string{without(had, bloom(n)), with(had, bloom(n), ""), with(had, bloom(n), s[:70]), with(had, bloom(n), had[bloom(3)]), with(had, bloom(n), strings.Repeat("\xff", len(s)))} {
			d := made(t, 60000, less)
			x := opened(t, d, m)
			answers(t, "a filter is spoilt", x, sorted(four()...))
			has(t, "Open", d, less)
		}
	}
}

func TestManifestIsACopy(t *testing.T) {
	m, had := fourth()
	want := show(m)
	in, _ := fourth()
	d := made(t, 60000, had)
	x := opened(t, d, in)
	for _, got := range []api.Manifest{in, x.Manifest(), x.Manifest()} {
		for _, level := range got.Levels {
			_ = append(level, 5)
			for i := range level {
				level[i] = 7
			}
		}
		got.Levels[0] = nil
		if show(x.Manifest()) != want {
			t.Fatalf("a copy was overwritten: the manifest is %s, not %s", show(x.Manifest()), want)
		}
	}
	answers(t, "a copy was overwritten", x, sorted(four()...))
	is(t, "Merge", x.Merge(0), api.OK)
	state(t, "Merge", x, of(5, 77, 9, nil, []int{4}, []int{2, 1}), 0)
}

// TestIndexesStandForThemselves has two of one disk, of which one is asked more.
func TestIndexesStandForThemselves(t *testing.T) {
	m, had := fourth()
	d := made(t, 60000, had)
	x, y := opened(t, d, m), opened(t, d, of(9, 0, 0, []int{1}))
	adds(t, x, at(7, 0, 0))
	state(t, "the other one", y, of(9, 0, 0, []int{1}), 0)
	answers(t, "the other one", y, four()[1])
	adds(t, y, at(8, 1, 1))
	answers(t, "the first one", x, sorted(append(four(), []api.Entry{at(7, 0, 0)})...))
	is(t, "Flush", x.Flush(logged(t, d, 0)), api.OK)
	state(t, "the other one", y, of(9, 0, 0, []int{1}), 1)
	answers(t, "the other one", y, sorted(four()[1], []api.Entry{at(8, 1, 1)}))
}

// none are indexes that are none.
func none(t *testing.T) []*Index {
	t.Helper()
	m, had := fourth()
	x := opened(t, made(t, 60000, had), m)
	adds(t, x, at(1, 0, 0))
	copied := *x
	return []*Index{nil, {}, &copied}
}

func TestNoIndex(t *testing.T) {
	for i, x := range none(t) {
		d := made(t, 60000, nil)
		l := logged(t, d, 1)
		for _, e := range []api.Entry{at(1, 1, 1), at(1, -1, 1)} {
			is(t, "Add", x.Add(e), api.ErrNil)
		}
		for _, l := range []*tflog.Log{l, nil, {}} {
			is(t, "Flush", x.Flush(l), api.ErrNil)
		}
		if l.Sure() != 0 {
			t.Fatal("Flush of no index made the log sure")
		}
		for _, level := range []int{-1, 0, 2, 5, math.MaxInt} {
			is(t, "Merge", x.Merge(level), api.ErrNil)
		}
		if x.Waiting() != 0 || show(x.Manifest()) != show(api.Manifest{}) {
			t.Fatalf("no index %d: Waiting %d, Manifest %s", i, x.Waiting(), show(x.Manifest()))
		}
		if l, e := x.Range(1, 0, 9); len(l) != 0 || e != api.ErrNil {
			t.Fatalf("no index %d: Range: %v, %v", i, l, e)
		}
		if n, e := x.Last(1, 9); n != -1 || e != api.ErrNil {
			t.Fatalf("no index %d: Last: %d, %v", i, n, e)
		}
	}
}

// P24.2

func TestAdd(t *testing.T) {
	x := opened(t, made(t, 60000, nil), api.Manifest{})
	var all []api.Entry
	for _, h := range []uint64{math.MaxUint64, 0, 1 << 63, 5} {
		for _, v := range []int{1, 0, math.MaxInt, api.MaxVersion + 1, api.MaxVersion} {
			for _, p := range []int{math.MaxInt, 7, 0} {
				for range 2 {
					adds(t, x, at(h, v, p))
				}
				all = append(all, at(h, v, p))
				state(t, "Add", x, api.Manifest{}, len(all))
			}
		}
	}
	answers(t, "Add", x, all)
}

func TestAddOfNone(t *testing.T) {
	m, had := fourth()
	d := made(t, 60000, had)
	x := opened(t, d, m)
	for _, e := range []api.Entry{at(1, -1, 0), at(1, 0, -1), at(0, math.MinInt, 5), at(0, 5, math.MinInt), at(1, -1, -1)} {
		is(t, fmt.Sprint("Add of ", e), x.Add(e), api.ErrArg)
		state(t, "Add of none", x, m, 0)
	}
	answers(t, "Add of none", x, sorted(four()...))
	has(t, "Add of none", d, had)
}

// TestAddOfWhatTablesHave is in memory all the same, and told once.
func TestAddOfWhatTablesHave(t *testing.T) {
	m, had := fourth()
	d := made(t, 60000, had)
	x := opened(t, d, m)
	adds(t, x, four()[1]...)
	adds(t, x, at(3, 8, 6))
	state(t, "Add", x, m, len(four()[1])+1)
	answers(t, "Add", x, sorted(append(four(), []api.Entry{at(3, 8, 6)})...))
	has(t, "Add", d, had)
}

// TestAddOnADiskThatIsDown needs no disk.
func TestAddOnADiskThatIsDown(t *testing.T) {
	d := made(t, 60000, nil)
	x := opened(t, d, api.Manifest{})
	is(t, "Crash", d.Crash(nil), api.OK)
	l := []api.Entry{at(1, 0, 0), at(1, 2, 9), at(1, 1, 0)}
	adds(t, x, l...)
	state(t, "a disk that is down", x, api.Manifest{}, 3)
	answers(t, "a disk that is down", x, l)
}

// TestAddInWhateverOrder makes no difference.
func TestAddInWhateverOrder(t *testing.T) {
	r := rand.New(rand.NewSource(242))
	l := sorted(four()...)
	var want map[string]string
	for range 30 {
		d := made(t, 60000, nil)
		x := opened(t, d, api.Manifest{})
		for _, i := range append(r.Perm(len(l)), r.Perm(len(l))[:5]...) {
			adds(t, x, l[i])
		}
		answers(t, "whatever order", x, l)
		is(t, "Flush", x.Flush(logged(t, d, 0)), api.OK)
		if want == nil {
			want = files(t, d)
		}
		has(t, "whatever order", d, want)
	}
}

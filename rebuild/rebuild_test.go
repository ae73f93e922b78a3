package rebuild

import (
	"encoding/binary"
	"fmt"
	"hash/crc32"
	"maps"
	"math"
	"slices"
	"strconv"
	"strings"
	"testing"

	"annalist/api"
	"annalist/batches"
	"annalist/blooms"
	"annalist/disk"
	"annalist/hashes"
	"annalist/index"
	"annalist/pages"
	"annalist/rates"
	"annalist/tflog"
)

// rate is that of most indexes here.
const rate = 0.01

// at is an entry, shortly.
func at(hash uint64, version, pos int) api.Entry {
	return api.Entry{Hash: hash, Version: version, Pos: pos}
}

// of is a manifest, shortly.
func of(next, check int, seed uint64, levels ...[]int) api.Manifest {
	return api.Manifest{Next: next, Check: check, Seed: seed, Levels: levels}
}

// some is a batch of so many events.
func some(stream string, first, n int) api.Batch {
	b := api.Batch{Stream: stream, First: first}
	for i := range n {
		b.Events = append(b.Events, api.Event{Type: "done", Data: strings.Repeat("x", i), Weight: float64(first)})
	}
	return b
}

// show is a manifest as a failure tells it; two are alike, if this is.
func show(m api.Manifest) string {
	for len(m.Levels) > 0 && len(m.Levels[len(m.Levels)-1]) == 0 {
		m.Levels = m.Levels[:len(m.Levels)-1]
	}
	return fmt.Sprintf("[Next %d, Check %d, Seed %d: %v]", m.Next, m.Check, m.Seed, m.Levels)
}

// number is an entry's bytes, by the library; of one that may be these stand to each other as the entries do.
func number(e api.Entry) string {
	b := binary.BigEndian.AppendUint64(nil, e.Hash)
	b = binary.BigEndian.AppendUint64(b, uint64(e.Version))
	return string(binary.BigEndian.AppendUint64(b, uint64(e.Pos)))
}

// sorted is entries of some lists in order, each once.
func sorted(lists ...[]api.Entry) []api.Entry {
	l := slices.Concat(lists...)
	slices.SortFunc(l, func(a, b api.Entry) int { return strings.Compare(number(a), number(b)) })
	return slices.Compact(l)
}

// sealed is bytes with their sum, by the library.
func sealed(b []byte) string {
	return string(binary.LittleEndian.AppendUint32(b, crc32.ChecksumIEEE(b)))
}

// tabled is the bytes of a table's file, by the library.
func tabled(l []api.Entry) string {
	b := binary.BigEndian.AppendUint32([]byte("ptab"), uint32(len(l)))
	for _, e := range l {
		b = append(b, number(e)...)
	}
	return sealed(b)
}

// filtered is the bytes of the filter's file, as chapter 19 has it.
func filtered(l []api.Entry, rate float64) string {
	once := map[uint64]bool{}
	for _, e := range l {
		once[e.Hash] = true
	}
	probes := rates.Probes(rate)
	return pages.Put(blooms.Make(slices.Collect(maps.Keys(once)), probes, 480*rates.Pages(len(once), probes)), probes)
}

// mapped is the bytes of a manifest, by the library.
func mapped(m api.Manifest) string {
	b := binary.BigEndian.AppendUint32([]byte("imap"), uint32(m.Next))
	b = binary.BigEndian.AppendUint32(b, uint32(m.Check))
	b = binary.BigEndian.AppendUint64(b, m.Seed)
	b = append(b, byte(len(m.Levels)))
	for _, level := range m.Levels {
		b = append(b, byte(len(level)))
		for _, n := range level {
			b = binary.BigEndian.AppendUint32(b, uint32(n))
		}
	}
	return sealed(b)
}

// table and bloom are names of files.
func table(n int) string { return fmt.Sprintf("t%06d", n) }
func bloom(n int) string { return fmt.Sprintf("b%06d", n) }

// with is some files, with others in their places or beside them.
func with(files map[string]string, more ...string) map[string]string {
	m := maps.Clone(files)
	for i := 0; i < len(more); i += 2 {
		m[more[i]] = more[i+1]
	}
	return m
}

// withTable is some files, and those of a table.
func withTable(files map[string]string, n int, l []api.Entry) map[string]string {
	return with(files, table(n), tabled(l), bloom(n), filtered(l, rate))
}

// without is some files, but for these.
func without(files map[string]string, less ...string) map[string]string {
	m := maps.Clone(files)
	for _, name := range less {
		delete(m, name)
	}
	return m
}

// is holds an error against the one that is to be.
func is(t *testing.T, what string, got, want api.Errno) {
	t.Helper()
	if got != want {
		t.Fatalf("%s: %v, not %v", what, got, want)
	}
}

// made is a new disk, with some files, that are sure.
func made(t *testing.T, capacity int, with map[string]string) *disk.Disk {
	t.Helper()
	d, e := disk.New(capacity)
	if d == nil || e != api.OK {
		t.Fatalf("disk.New(%d): %v, %v", capacity, d, e)
	}
	for _, name := range slices.Sorted(maps.Keys(with)) {
		lays(t, d, name, with[name])
	}
	return d
}

// lays puts a file on a disk, in the place of one that was; its bytes are sure.
func lays(t *testing.T, d *disk.Disk, name, s string) {
	t.Helper()
	d.Delete(name)
	for _, e := range []api.Errno{d.Create(name), d.Append(name, s), d.Sync(name)} {
		is(t, "lay the file "+strconv.Quote(name), e, api.OK)
	}
}

// files are all files of a disk that is up, with their bytes.
func files(t *testing.T, d *disk.Disk) map[string]string {
	t.Helper()
	m := map[string]string{}
	for _, name := range d.Names() {
		n, e := d.Size(name)
		is(t, "Size", e, api.OK)
		m[name], e = d.Read(name, 0, n)
		is(t, "Read", e, api.OK)
	}
	return m
}

// has holds the files of a disk that is up against some.
func has(t *testing.T, what string, d *disk.Disk, want map[string]string) {
	t.Helper()
	if got := files(t, d); !maps.Equal(got, want) {
		t.Fatalf("%s: the disk has %.900q, not %.900q", what, got, want)
	}
}

// logged is the log of a disk.
func logged(t *testing.T, d *disk.Disk) *tflog.Log {
	t.Helper()
	l, e := tflog.Open(d)
	is(t, "tflog.Open", e, api.OK)
	return l
}

// writes appends batches to a log, and is their places.
func writes(t *testing.T, l *tflog.Log, story ...api.Batch) []int {
	t.Helper()
	var places []int
	for _, b := range story {
		s, e := batches.Put(b)
		is(t, "batches.Put", e, api.OK)
		pos, e := l.Append(s)
		is(t, "tflog.Append", e, api.OK)
		places = append(places, pos)
	}
	return places
}

// entriesOf is the entries of batches that stand at these places, batch by batch.
func entriesOf(seed uint64, story []api.Batch, places []int) [][]api.Entry {
	var l [][]api.Entry
	for i, b := range story {
		var of []api.Entry
		for k := range b.Events {
			of = append(of, at(hashes.Hash(seed, b.Stream), b.First+k, places[i]))
		}
		l = append(l, of)
	}
	return l
}

// opened is what Open makes of a disk and its log, where it has to be OK.
func opened(t *testing.T, what string, d *disk.Disk, l *tflog.Log, seed uint64, anew bool) *index.Index {
	t.Helper()
	x, b, e := Open(d, l, seed, rate)
	if x == nil || b != anew || e != api.OK {
		t.Fatalf("%s: Open: %v, %v, %v; anew is to be %v", what, x, b, e, anew)
	}
	return x
}

// refused holds what Open tells against an error, and nothing beside it.
func refused(t *testing.T, what string, d *disk.Disk, l *tflog.Log, seed uint64, want api.Errno) {
	t.Helper()
	if x, anew, e := Open(d, l, seed, rate); x != nil || anew || e != want {
		t.Fatalf("%s: Open: %v, %v, %v, not %v", what, x, anew, e, want)
	}
}

// inRange is the entries that Range is to tell of all, one by one.
func inRange(all []api.Entry, hash uint64, from, to int) []api.Entry {
	var told []api.Entry
	for _, e := range all {
		if e.Hash == hash && e.Version >= from && e.Version <= to {
			told = append(told, e)
		}
	}
	return sorted(told)
}

// answers holds what an index tells of all hashes that some entries have, and of others, against these.
func answers(t *testing.T, what string, x *index.Index, all []api.Entry) {
	t.Helper()
	l := []uint64{0, 7, math.MaxUint64}
	for _, e := range all {
		if !slices.Contains(l, e.Hash) {
			l = append(l, e.Hash)
		}
	}
	for _, h := range l {
		for _, c := range [][2]int{{0, math.MaxInt}, {0, 2}, {1, 4}, {3, 3}, {5, 9}} {
			if m, e := x.Range(h, c[0], c[1]); e != api.OK || !slices.Equal(m, inRange(all, h, c[0], c[1])) {
				t.Fatalf("%s: Range(%d, %d, %d): %v, %v, not %v", what, h, c[0], c[1], m, e, inRange(all, h, c[0], c[1]))
			}
		}
		last := -1
		for _, e := range inRange(all, h, 0, math.MaxInt) {
			last = max(last, e.Version)
		}
		if n, e := x.Last(h, math.MaxInt); e != api.OK || n != last {
			t.Fatalf("%s: Last(%d): %d, %v, not %d", what, h, n, e, last)
		}
	}
}

// state holds an index's manifest, and how many entries are in memory, against what is to be.
func state(t *testing.T, what string, x *index.Index, m api.Manifest, waiting int) {
	t.Helper()
	if got := x.Manifest(); show(got) != show(m) {
		t.Fatalf("%s: the manifest is %s, not %s", what, show(got), show(m))
	}
	if n := x.Waiting(); n != waiting {
		t.Fatalf("%s: %d entries are in memory, not %d", what, n, waiting)
	}
}

// story is batches of three streams, of which the places 5 on are in no table.
func story() []api.Batch {
	return []api.Batch{
		some("a", 0, 2), some("b", 0, 1), some("a", 2, 1), some("b", 1, 8), some("c", 0, 3), some("b", 9, 2), some("a", 3, 3), some("c", 3, 1),
	}
}

// scene is a disk with a log, and an index by a seed: table 0 has what the first three records have, table 2 what the next two have. Beside these lie files that nobody has any more.
type scene struct {
	d      *disk.Disk
	l      *tflog.Log
	m      api.Manifest
	places []int
	each   [][]api.Entry // record by record
	all    []api.Entry
	had    map[string]string
	clean  map[string]string // without what Clean takes away
	bare   map[string]string // without what has to do with an index
}

func sceneOf(t *testing.T, seed uint64) scene {
	t.Helper()
	var s scene
	s.d = made(t, 60000, map[string]string{"x": "another file", "t00001": "no table"})
	s.l = logged(t, s.d)
	s.places = writes(t, s.l, story()...)
	s.each = entriesOf(seed, story(), s.places)
	s.all = sorted(s.each...)
	s.m = of(3, s.places[5], seed, []int{2}, []int{0})
	s.bare = files(t, s.d)
	s.clean = withTable(withTable(s.bare, 0, sorted(s.each[:3]...)), 2, sorted(s.each[3:5]...))
	s.clean["map"] = mapped(s.m)
	s.had = withTable(with(s.clean, "new", "left", "b000007", "", "t999999", "x"), 1, nil)
	for name, bytes := range s.had {
		if _, ok := s.bare[name]; !ok {
			lays(t, s.d, name, bytes)
		}
	}
	has(t, "the scene", s.d, s.had)
	return s
}

// waiting is how many entries are in no table.
func (s scene) waiting() int { return len(sorted(s.each[5:]...)) }

// lies holds that Open finds the index that lies there.
func (s scene) lies(t *testing.T, what string, files map[string]string) {
	t.Helper()
	x := opened(t, what, s.d, s.l, s.m.Seed, false)
	state(t, what, x, s.m, s.waiting())
	answers(t, what, x, s.all)
	has(t, what, s.d, files)
}

// isAnew holds that Open makes the index anew.
func (s scene) isAnew(t *testing.T, what string) {
	t.Helper()
	x := opened(t, what, s.d, s.l, s.m.Seed, true)
	state(t, what, x, of(0, 0, s.m.Seed), len(s.all))
	answers(t, what, x, s.all)
	has(t, what, s.d, s.bare)
}

func TestExamples(t *testing.T) {
	d := made(t, 60000, nil)
	x := opened(t, "a new disk", d, logged(t, d), 3, true)
	state(t, "a new disk", x, of(0, 0, 3), 0)
	answers(t, "a new disk", x, nil)
	has(t, "a new disk", d, nil)
}

// P25.1

func TestOpenOfWhatLies(t *testing.T) {
	for _, seed := range []uint64{0, 1, 9, math.MaxUint64} {
		s := sceneOf(t, seed)
		s.lies(t, "Open", s.clean)
		s.lies(t, "Open again", s.clean)
	}
}

// TestOpenOfALog has no index on the disk, but perhaps what one left there.
func TestOpenOfALog(t *testing.T) {
	for _, seed := range []uint64{0, 1, 9, math.MaxUint64} {
		s := sceneOf(t, seed)
		is(t, "Delete", s.d.Delete("map"), api.OK)
		s.isAnew(t, "Open")
		s.isAnew(t, "Open again")
	}
}

func TestOpenByAnotherSeed(t *testing.T) {
	for _, c := range [][2]uint64{{0, 1}, {1, 0}, {9, 8}, {math.MaxUint64, 1 << 63}, {1, 1<<32 + 1}} {
		s := sceneOf(t, c[0])
		s.m.Seed, s.all = c[1], sorted(entriesOf(c[1], story(), s.places)...)
		s.isAnew(t, fmt.Sprint("the seeds ", c))
	}
}

// TestCheck has a manifest that says any place: from there on the records are added, also such as tables have.
func TestCheck(t *testing.T) {
	s := sceneOf(t, 5)
	end := s.l.End()
	for check := range end + 1 {
		s.m.Check = check
		lays(t, s.d, "map", mapped(s.m))
		all := sorted(s.each[:5]...)
		var waiting []api.Entry
		for i, pos := range s.places {
			if pos >= check {
				waiting = append(waiting, s.each[i]...)
			}
		}
		what := fmt.Sprint("Check is ", check)
		x := opened(t, what, s.d, s.l, 5, false)
		state(t, what, x, s.m, len(waiting))
		answers(t, what, x, sorted(all, waiting))
	}
	for _, check := range []int{end + 1, end + 2, 4096, 1<<31 - 1} {
		s := sceneOf(t, 5)
		s.m.Check = check
		lays(t, s.d, "map", mapped(s.m))
		s.isAnew(t, fmt.Sprint("Check is ", check))
	}
}

// TestCheckOfALogWithoutRecords has a log that was lost.
func TestCheckOfALogWithoutRecords(t *testing.T) {
	for _, c := range []struct {
		check int
		anew  bool
	}{{0, false}, {1, true}, {12, true}} {
		m := of(8, c.check, 5, nil, []int{4})
		had := withTable(map[string]string{"map": mapped(m)}, 4, []api.Entry{at(3, 1, 12)})
		d := made(t, 60000, had)
		x := opened(t, "no records", d, logged(t, d), 5, c.anew)
		if c.anew {
			state(t, "no records", x, of(0, 0, 5), 0)
			answers(t, "no records", x, nil)
			has(t, "no records", d, nil)
		} else {
			state(t, "no records", x, m, 0)
			answers(t, "no records", x, []api.Entry{at(3, 1, 12)})
			has(t, "no records", d, had)
		}
	}
}

// TestSpoiltMaps has the manifest overwritten at each byte, cut off at each, and gone.
func TestSpoiltMaps(t *testing.T) {
	s := sceneOf(t, 5)
	whole := s.had["map"]
	for i := range whole {
		for _, with := range []byte{whole[i] ^ 1, whole[i] ^ 0x80, ^whole[i]} {
			lays(t, s.d, "map", whole[:i]+string([]byte{with})+whole[i+1:])
			s.isAnew(t, fmt.Sprintf("the byte %d of the manifest is %d", i, with))
		}
		lays(t, s.d, "map", whole[:i])
		s.isAnew(t, fmt.Sprintf("%d bytes of the manifest", i))
	}
	lays(t, s.d, "map", whole+"x")
	s.isAnew(t, "a byte behind the manifest")
	lays(t, s.d, "map", mapped(of(3, 0, 5, []int{3})))
	s.isAnew(t, "a manifest that may not be")
}

// TestSpoiltTables has one of both tables overwritten, cut off, another one's, or gone.
func TestSpoiltTables(t *testing.T) {
	for _, n := range []int{0, 2} {
		s := sceneOf(t, 5)
		whole := s.had[table(n)]
		for i := range whole {
			for what, bytes := range map[string]string{
				"spoilt": whole[:i] + string([]byte{whole[i] ^ 4}) + whole[i+1:],
				"cut":    whole[:i],
			} {
				s.again(t)
				lays(t, s.d, table(n), bytes)
				s.isAnew(t, fmt.Sprintf("the table %d is %s at %d", n, what, i))
			}
		}
		s.again(t)
		lays(t, s.d, table(n), whole+"x")
		s.isAnew(t, "a byte behind the table")
		s.again(t)
		is(t, "Delete", s.d.Delete(table(n)), api.OK)
		s.isAnew(t, "a table is gone")
	}
}

// again lays all of a scene once more.
func (s scene) again(t *testing.T) {
	t.Helper()
	for name, bytes := range s.had {
		if _, ok := s.bare[name]; !ok {
			lays(t, s.d, name, bytes)
		}
	}
}

// TestSpoiltFilters has these spoilt in all ways: the index is whole all the same.
func TestSpoiltFilters(t *testing.T) {
	for _, n := range []int{0, 2} {
		s := sceneOf(t, 5)
		whole := s.had[bloom(n)]
		for i := range whole {
			for what, bytes := range map[string]string{
				"spoilt": whole[:i] + string([]byte{^whole[i]}) + whole[i+1:],
				"cut":    whole[:i],
			} {
				lays(t, s.d, bloom(n), bytes)
				s.lies(t, fmt.Sprintf("the filter %d is %s at %d", n, what, i), with(s.clean, bloom(n), bytes))
			}
		}
		lays(t, s.d, bloom(n), s.had[bloom(2-n)])
		s.lies(t, "another table's filter", with(s.clean, bloom(n), s.had[bloom(2-n)]))
		is(t, "Delete", s.d.Delete(bloom(n)), api.OK)
		s.lies(t, "a filter is gone", without(s.clean, bloom(n)))
	}
}

// TestEvents has batches of all kinds: each event has its version, and its record's place.
func TestEvents(t *testing.T) {
	l := []api.Batch{
		some("a", 0, 1), some("a", 0, 1), some("b", 0, 8), some("a", 7, 8), some("\x00", api.MaxVersion-8, 8), some("\xff\x00\xff", api.MaxVersion-1, 1),
		some(strings.Repeat("é", 16), 5, 2), some("a", 3, 4), some("a\x00", 3, 4),
	}
	for _, seed := range []uint64{0, 1, 14695981039346656037} {
		d := made(t, 60000, nil)
		log := logged(t, d)
		all := sorted(entriesOf(seed, l, writes(t, log, l...))...)
		if len(all) != 37 {
			t.Fatalf("%d entries", len(all))
		}
		x := opened(t, "batches of all kinds", d, log, seed, true)
		state(t, "batches of all kinds", x, of(0, 0, seed), 37)
		answers(t, "batches of all kinds", x, all)
	}
}

// TestManyChunks has records of a log of many chunks, some of which the tables have.
func TestManyChunks(t *testing.T) {
	var l []api.Batch
	for i := range 400 {
		l = append(l, some(fmt.Sprint("stream ", i%13), i/13*8, 1+i%8))
	}
	for _, tables := range []int{0, 1, 57, 200, 399, 400} {
		d := made(t, 200000, nil)
		log := logged(t, d)
		each := entriesOf(6, l, writes(t, log, l...))
		if log.End() < 10*4096 {
			t.Fatalf("the log ends at %d", log.End())
		}
		had := sorted(each[:tables]...)
		check := log.End()
		if tables < len(l) {
			check = each[tables][0].Pos
		}
		m := of(1, check, 6, []int{0})
		for name, s := range withTable(map[string]string{"map": mapped(m)}, 0, had) {
			lays(t, d, name, s)
		}
		x := opened(t, "many chunks", d, log, 6, false)
		state(t, "many chunks", x, m, len(sorted(each...))-len(had))
		answers(t, "many chunks", x, sorted(each...))
	}
}

// TestRecordsThatAreNone has one that is no batch: ahead of Check it makes no difference.
func TestRecordsThatAreNone(t *testing.T) {
	whole, _ := batches.Put(some("a", 1, 2))
	for _, bad := range []string{"", "a", whole + "x", whole[:len(whole)-1], "\x00\x00" + whole[3:], strings.Repeat("x", 2000)} {
		s := sceneOf(t, 5)
		pos, e := s.l.Append(bad)
		is(t, "Append", e, api.OK)
		writes(t, s.l, some("d", 0, 1))
		s.bare = with(s.bare, "c000000", files(t, s.d)["c000000"])
		s.clean = with(s.clean, "c000000", files(t, s.d)["c000000"])
		refused(t, "a record that is no batch", s.d, s.l, 5, api.ErrBroke)
		has(t, "a record that is no batch", s.d, s.clean)
		refused(t, "a record that is no batch, anew", s.d, s.l, 6, api.ErrBroke)
		has(t, "a record that is no batch, anew", s.d, s.bare)
		m := of(9, pos+1, 5)
		lays(t, s.d, "map", mapped(m))
		x := opened(t, "it stands ahead of Check", s.d, s.l, 5, false)
		state(t, "it stands ahead of Check", x, m, 1)
		m.Check = pos
		lays(t, s.d, "map", mapped(m))
		refused(t, "it stands at Check", s.d, s.l, 5, api.ErrBroke)
		is(t, "Delete", s.d.Delete("map"), api.OK)
		refused(t, "it stands in the log", s.d, s.l, 5, api.ErrBroke)
	}
}

func TestNoDisksAndNoLogs(t *testing.T) {
	s := sceneOf(t, 5)
	noDisk, noLog := *s.d, *s.l
	try := func() {
		for _, d := range []*disk.Disk{nil, {}, &noDisk, s.d} {
			for _, l := range []*tflog.Log{nil, {}, &noLog, s.l} {
				if d != s.d || l != s.l {
					refused(t, "none", d, l, 5, api.ErrNil)
					refused(t, "none", d, l, 6, api.ErrNil)
				}
			}
		}
	}
	try()
	has(t, "none", s.d, s.had)
	is(t, "Crash", s.d.Crash(slices.Repeat([]int{9999}, 99)), api.OK)
	try()
	is(t, "Start", s.d.Start(), api.OK)
	has(t, "none", s.d, s.had)
}

// TestADiskThatIsDown changes nothing.
func TestADiskThatIsDown(t *testing.T) {
	s := sceneOf(t, 5)
	other := logged(t, made(t, 60000, nil))
	is(t, "Crash", s.d.Crash(slices.Repeat([]int{9999}, 99)), api.OK)
	for _, l := range []*tflog.Log{s.l, other} {
		for _, seed := range []uint64{5, 6} {
			refused(t, "a disk that is down", s.d, l, seed, api.ErrDown)
		}
	}
	is(t, "Start", s.d.Start(), api.OK)
	has(t, "a disk that is down", s.d, s.had)
	s.l = logged(t, s.d)
	s.lies(t, "it is up again", s.clean)
}

// TestALogThatIsOver is told of when it is gone through: the index is there by then.
func TestALogThatIsOver(t *testing.T) {
	s := sceneOf(t, 5)
	is(t, "Crash", s.d.Crash(slices.Repeat([]int{9999}, 99)), api.OK)
	is(t, "Start", s.d.Start(), api.OK)
	refused(t, "a log that is over", s.d, s.l, 5, api.ErrDown)
	has(t, "a log that is over", s.d, s.clean)
	refused(t, "a log that is over, anew", s.d, s.l, 6, api.ErrDown)
	has(t, "a log that is over, anew", s.d, s.bare)
	s.l = logged(t, s.d)
	s.isAnew(t, "its log is opened again")
}

// TestALogOfAnotherDisk is gone through as well; the index lies on the disk that is handed in.
func TestALogOfAnotherDisk(t *testing.T) {
	s := sceneOf(t, 5)
	d := made(t, 60000, map[string]string{"t000004": "x"})
	s.d, s.bare = d, nil
	s.isAnew(t, "another disk")
	x := opened(t, "another disk", d, s.l, 5, true)
	is(t, "Flush", x.Flush(s.l), api.OK)
	has(t, "Flush", d, withTable(map[string]string{"map": mapped(of(1, s.l.End(), 5, []int{0}))}, 0, s.all))
	x = opened(t, "behind Flush", d, s.l, 5, false)
	state(t, "behind Flush", x, of(1, s.l.End(), 5, []int{0}), 0)
}

// TestRates has the index's filters made by the rate that is handed in.
func TestRates(t *testing.T) {
	for _, rate := range []float64{0, 1, 0.5, 0.001, -1, math.Inf(1), math.Inf(-1), math.NaN()} {
		s := sceneOf(t, 5)
		x, anew, e := Open(s.d, s.l, 5, rate)
		if anew || e != api.OK {
			t.Fatalf("the rate %v: %v, %v", rate, anew, e)
		}
		is(t, "Flush", x.Flush(s.l), api.OK)
		if got := files(t, s.d)[bloom(3)]; got != filtered(sorted(s.each[5:]...), rate) {
			t.Fatalf("the rate %v: the filter is %q", rate, got)
		}
		x, anew, e = Open(s.d, s.l, 6, rate)
		if !anew || e != api.OK {
			t.Fatalf("the rate %v, anew: %v, %v", rate, anew, e)
		}
		is(t, "Flush", x.Flush(s.l), api.OK)
		all := sorted(entriesOf(6, story(), s.places)...)
		if got := files(t, s.d)[bloom(0)]; got != filtered(all, rate) {
			t.Fatalf("the rate %v, anew: the filter is %q", rate, got)
		}
		answers(t, "any rate", x, all)
	}
}

// TestWhatStays is the log: where it ends, and what of it is sure.
func TestWhatStays(t *testing.T) {
	s := sceneOf(t, 5)
	unsynced, end, sure := slices.Max(s.d.Unsynced()), s.l.End(), s.l.Sure()
	if unsynced == 0 || sure != 0 {
		t.Fatalf("%d bytes are not sure, the log up to %d is", unsynced, sure)
	}
	for _, seed := range []uint64{5, 6, 6} {
		_, _, e := Open(s.d, s.l, seed, rate)
		is(t, "Open", e, api.OK)
		if got := slices.Max(s.d.Unsynced()); got != unsynced || s.l.End() != end || s.l.Sure() != sure {
			t.Fatalf("%d bytes are not sure, not %d; the log ends at %d, and is sure up to %d", got, unsynced, s.l.End(), s.l.Sure())
		}
	}
}

// TestAChangeFails lets each change fail that there is; the first that is not done is told. Opened again all is whole.
func TestAChangeFails(t *testing.T) {
	for _, anew := range []bool{false, true} {
		s := sceneOf(t, 5)
		goes := []string{"b000001", "b000007", "new", "t000001", "t999999"}
		if anew {
			goes = []string{"map", "b000000", "b000001", "b000002", "b000007", "new", "t000000", "t000001", "t000002", "t999999"}
		}
		for n := range len(goes) + 1 {
			s := sceneOf(t, 5)
			is(t, "tflog.Flush", s.l.Flush(), api.OK)
			if anew {
				is(t, "Spoil", s.d.Spoil("map", 0, "x"), api.OK)
				s.had["map"] = "x" + s.had["map"][1:]
			}
			is(t, "Fail", s.d.Fail(n, nil), api.OK)
			what := fmt.Sprintf("the change %d fails", n)
			if n < len(goes) {
				refused(t, what, s.d, s.l, 5, api.ErrDown)
				is(t, "Start", s.d.Start(), api.OK)
				has(t, what, s.d, without(s.had, goes[:n]...))
				s.l = logged(t, s.d)
			}
			if anew {
				s.isAnew(t, what)
			} else {
				s.lies(t, what, s.clean)
			}
		}
		// Where nothing is to go, nothing changes.
		is(t, "tflog.Flush", s.l.Flush(), api.OK)
		if anew {
			is(t, "Delete", s.d.Delete("map"), api.OK)
		}
		opened(t, "Open", s.d, s.l, 5, anew)
		is(t, "Fail", s.d.Fail(0, nil), api.OK)
		opened(t, "Open, and nothing changes", s.d, s.l, 5, anew)
	}
}

// TestAChangeFailsBesideAnotherLog has a log that is not over, though the disk is down.
func TestAChangeFailsBesideAnotherLog(t *testing.T) {
	l := logged(t, made(t, 60000, nil))
	writes(t, l, story()...)
	for _, c := range []struct {
		seed    uint64
		changes int
	}{{5, 5}, {6, 10}} {
		for n := range c.changes {
			s := sceneOf(t, 5)
			is(t, "Fail", s.d.Fail(n, nil), api.OK)
			refused(t, fmt.Sprintf("the change %d fails", n), s.d, l, c.seed, api.ErrDown)
		}
		s := sceneOf(t, 5)
		is(t, "Fail", s.d.Fail(c.changes, nil), api.OK)
		opened(t, "no change fails", s.d, l, c.seed, c.seed == 6)
	}
}

// TestIndexesAreApart has two of one disk: what is added to one is not the other's.
func TestIndexesAreApart(t *testing.T) {
	s := sceneOf(t, 5)
	x := opened(t, "one", s.d, s.l, 5, false)
	y := opened(t, "another one", s.d, s.l, 5, false)
	is(t, "Add", x.Add(at(1, 1, 1)), api.OK)
	answers(t, "one", x, sorted(s.all, []api.Entry{at(1, 1, 1)}))
	answers(t, "another one", y, s.all)
	m := x.Manifest()
	m.Levels[0][0] = 77
	state(t, "its manifest was overwritten by the caller", x, s.m, s.waiting()+1)
	state(t, "its manifest was overwritten by the caller", y, s.m, s.waiting())
}

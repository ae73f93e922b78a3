package index

import (
	"fmt"
	"maps"
	"slices"
	"strconv"
	"strings"
	"testing"

	"annalist/api"
	"annalist/disk"
	"annalist/tflog"
)

// more are entries that are in memory ahead of a Flush: some that tables have, one that is above MaxVersion.
func more() []api.Entry {
	return []api.Entry{at(3, 9, 99), at(1, 3, 95), at(1, 1, 30), at(6, 0, 96), at(6, api.MaxVersion+1, 97), at(1, 2, 95)}
}

// waiting is an index of four tables, and more in memory, on a disk with so much room, and its log, which has two records that are not sure; all that it has, and the disk's files.
func waiting(t *testing.T, capacity int) (x *Index, l *tflog.Log, d *disk.Disk, all []api.Entry, had map[string]string) {
	t.Helper()
	m, had := fourth()
	d = made(t, capacity, had)
	l = logged(t, d, 2)
	x = opened(t, d, m)
	adds(t, x, more()...)
	return x, l, d, sorted(append(four(), more())...), files(t, d)
}

// flushed is the manifest behind a Flush of such an index.
func flushed() api.Manifest { return of(5, 52, 9, []int{0, 3, 4}, nil, []int{2, 1}) }

// withFlushed is the files behind it.
func withFlushed(had map[string]string) map[string]string {
	return with(withTable(had, 4, sorted(more())), "map", mapped(flushed()))
}

// P24.3

func TestFlush(t *testing.T) {
	x, l, d, all, had := waiting(t, 60000)
	answers(t, "ahead of Flush", x, all)
	is(t, "Flush", x.Flush(l), api.OK)
	has(t, "Flush", d, withFlushed(had))
	state(t, "Flush", x, flushed(), 0)
	answers(t, "Flush", x, all)
	if l.Sure() != 52 || l.End() != 52 {
		t.Fatalf("the log is sure up to %d of %d", l.Sure(), l.End())
	}
	answers(t, "opened again", opened(t, d, flushed()), all)
}

// TestFlushes are one behind the other, each with what was added since, and as much of the log as there is.
func TestFlushes(t *testing.T) {
	d := made(t, 60000, nil)
	l := logged(t, d, 0)
	x := opened(t, d, of(12, 5, 1<<63))
	m := of(12, 5, 1<<63, nil)
	want := map[string]string{}
	var all []api.Entry
	for n, some := range append(four()[:3], more(), four()[1]) {
		adds(t, x, some...)
		state(t, "Add", x, m, len(some))
		pos, e := l.Append(strings.Repeat("x", 100*n))
		is(t, "Append", e, api.OK)
		is(t, "Flush", x.Flush(l), api.OK)
		all = sorted(all, some)
		m.Next, m.Check, m.Levels[0] = 13+n, pos+100*n+12, append(m.Levels[0], 12+n)
		state(t, "Flush", x, m, 0)
		answers(t, "Flush", x, all)
		c, _ := d.Size("c000000")
		s, _ := d.Read("c000000", 0, c)
		want = with(withTable(want, 12+n, sorted(some)), "map", mapped(m), "c000000", s)
		has(t, "Flush", d, want)
	}
}

// TestFlushOfNothing makes the log sure, and that alone.
func TestFlushOfNothing(t *testing.T) {
	m, had := fourth()
	for _, m := range []api.Manifest{m, {}, of(1000000, 0, 0), of(40, 0, 0, nil, nil, []int{1})} {
		d := made(t, 60000, had)
		x := opened(t, d, m)
		l := logged(t, d, 3)
		had := files(t, d)
		for range 2 {
			is(t, "Flush", x.Flush(l), api.OK)
			has(t, "Flush of nothing", d, had)
			state(t, "Flush of nothing", x, m, 0)
			if l.Sure() != l.End() || l.End() != 72 {
				t.Fatalf("the log is sure up to %d of %d", l.Sure(), l.End())
			}
		}
	}
	x, l, d, all, had := waiting(t, 60000)
	for range 3 {
		is(t, "Flush", x.Flush(l), api.OK)
		has(t, "Flush again", d, withFlushed(had))
		state(t, "Flush again", x, flushed(), 0)
	}
	answers(t, "Flush again", x, all)
}

// TestFlushWithoutALog is the log's error, also where nothing is in memory; then nothing is done.
func TestFlushWithoutALog(t *testing.T) {
	x, l, d, all, had := waiting(t, 60000)
	empty := opened(t, d, of(9, 0, 0, []int{3}))
	copied := *l
	for _, l := range []*tflog.Log{nil, {}, &copied} {
		is(t, "Flush", empty.Flush(l), api.ErrNil)
		is(t, "Flush", x.Flush(l), api.ErrNil)
	}
	other := made(t, 60000, nil)
	over := logged(t, other, 1)
	is(t, "Crash", other.Crash(nil), api.OK)
	is(t, "Flush", empty.Flush(over), api.ErrDown)
	is(t, "Flush", x.Flush(over), api.ErrDown)
	is(t, "Start", other.Start(), api.OK)
	is(t, "Flush", x.Flush(over), api.ErrDown)
	gone := logged(t, other, 1)
	is(t, "Delete", other.Delete("c000000"), api.OK)
	is(t, "Flush", empty.Flush(gone), api.ErrNone)
	is(t, "Flush", x.Flush(gone), api.ErrNone)
	if got := files(t, d); !maps.Equal(got, had) {
		t.Fatalf("the disk has %q", got)
	}
	m, _ := fourth()
	state(t, "Flush without a log", x, m, len(more()))
	answers(t, "Flush without a log", x, all)
	if l.Sure() != 0 {
		t.Fatalf("the log is sure up to %d", l.Sure())
	}
	is(t, "Flush", x.Flush(l), api.OK)
	has(t, "Flush", d, withFlushed(had))
}

// TestFlushOfADiskThatIsDown has a log of its own disk, or of another one.
func TestFlushOfADiskThatIsDown(t *testing.T) {
	x, l, d, all, had := waiting(t, 60000)
	empty := opened(t, d, of(9, 0, 0, []int{3}))
	other := logged(t, made(t, 60000, nil), 1)
	is(t, "Crash", d.Crash([]int{100, 100, 100, 100, 100}), api.OK)
	is(t, "Flush", x.Flush(l), api.ErrDown)
	is(t, "Flush", x.Flush(other), api.ErrDown)
	is(t, "Flush of nothing", empty.Flush(other), api.OK)
	m, _ := fourth()
	state(t, "a disk that is down", x, m, len(more()))
	is(t, "Start", d.Start(), api.OK)
	has(t, "a disk that is down", d, had)
	answers(t, "it is up again", x, all)
	is(t, "Flush", x.Flush(l), api.ErrDown)
	is(t, "Flush", x.Flush(logged(t, d, 0)), api.OK)
	has(t, "Flush", d, withFlushed(had))
}

// steps are what is on the disk, where the step of that number fails, of those that lay a table and a manifest; some bytes are kept of what was not sure.
func steps(had map[string]string, n int, l []api.Entry, m api.Manifest, keep int) []map[string]string {
	cut := func(s string) string { return s[:min(keep, len(s))] }
	filter, s, manifest := filtered(l, rate), tabled(l), mapped(m)
	one := with(had, bloom(n), filter)
	both := with(one, table(n), s)
	return []map[string]string{
		had, with(had, bloom(n), cut(filter)), with(had, bloom(n), cut(filter)),
		one, with(one, table(n), cut(s)), with(one, table(n), cut(s)),
		both, with(both, "new", cut(manifest)), with(both, "new", cut(manifest)), with(both, "new", manifest),
	}
}

// fail lets a disk's change of that number fail; keep is how many bytes of each file stay.
func fail(t *testing.T, d *disk.Disk, change, keep int) {
	t.Helper()
	is(t, "Fail", d.Fail(change, slices.Repeat([]int{keep}, 400)), api.OK)
}

// TestFlushFails lets each change fail: then all is as it was, but on the disk; the manifest there is the old one.
func TestFlushFails(t *testing.T) {
	old, _ := fourth()
	for _, keep := range []int{0, 1, 20, 64, 1000} {
		_, _, _, all, had := waiting(t, 60000)
		want := steps(had, 4, sorted(more()), flushed(), keep)
		for change := range len(want) + 1 {
			x, l, d, _, _ := waiting(t, 60000)
			fail(t, d, change, keep)
			is(t, fmt.Sprintf("Flush, the change %d fails", change), x.Flush(l), api.ErrDown)
			state(t, "a change fails", x, old, len(more()))
			if d.Up() {
				t.Fatalf("the change %d fails: the disk is up", change)
			}
			is(t, "Start", d.Start(), api.OK)
			if change == 0 {
				has(t, "the log's change fails", d, with(had, "c000000", had["c000000"][:min(keep, 52)]))
			} else {
				has(t, fmt.Sprintf("the change %d fails", change), d, want[change-1])
			}
			answers(t, "a change fails", x, all)
			answers(t, "opened again", opened(t, d, old), sorted(four()...))
		}
		x, l, d, _, _ := waiting(t, 60000)
		fail(t, d, len(want)+1, keep)
		is(t, "the change behind Flush fails", x.Flush(l), api.OK)
		state(t, "the change behind Flush fails", x, flushed(), 0)
		is(t, "Create", d.Create("y"), api.ErrDown)
		is(t, "Start", d.Start(), api.OK)
		has(t, "the change behind Flush fails", d, withFlushed(had))
		answers(t, "opened again", opened(t, d, flushed()), all)
	}
}

// full holds that a Flush has no room: then all is as it was, on the disk as well.
func full(t *testing.T, what string, x *Index, l *tflog.Log, d *disk.Disk, m api.Manifest) {
	t.Helper()
	had, n := files(t, d), x.Waiting()
	is(t, what+": Flush", x.Flush(l), api.ErrFull)
	has(t, what, d, had)
	state(t, what, x, m, n)
}

// TestFlushHasRoom is tried with each number of bytes free about those where there is room for the table, and where there is room for the manifest as well.
func TestFlushHasRoom(t *testing.T) {
	old, _ := fourth()
	_, _, d, _, had := waiting(t, 60000)
	used := 60000 - d.Free()
	laid := len(filtered(sorted(more()), rate)) + len(tabled(more()))
	manifest := len(mapped(flushed()))
	for _, room := range []int{0, 1, laid - 1, laid, laid + 1, laid + manifest - 1, laid + manifest, laid + manifest + 1} {
		x, l, d, all, _ := waiting(t, 6000+used+room)
		if room < laid+manifest {
			full(t, fmt.Sprintf("%d bytes", room), x, l, d, old)
			answers(t, "no room", x, all)
			continue
		}
		is(t, "Flush", x.Flush(l), api.OK)
		has(t, "Flush", d, withFlushed(had))
		state(t, "Flush", x, flushed(), 0)
		answers(t, "Flush", x, all)
	}
}

// TestFlushAgainBehindNoRoom lays the table with the number that it would have had.
func TestFlushAgainBehindNoRoom(t *testing.T) {
	old, _ := fourth()
	_, _, d, _, had := waiting(t, 60000)
	used := 60000 - d.Free()
	for _, room := range []int{0, 100, 500, 700} {
		x, l, d, all, _ := waiting(t, 6000+used+room)
		fill := strings.Repeat("y", room)
		lays(t, d, "y", fill)
		full(t, "no room", x, l, d, old)
		is(t, "Delete", d.Delete("y"), api.OK)
		laid := len(filtered(sorted(more()), rate)) + len(tabled(more())) + len(mapped(flushed()))
		if room < laid {
			full(t, "no room", x, l, d, old)
			continue
		}
		is(t, "Flush", x.Flush(l), api.OK)
		has(t, "Flush", d, withFlushed(had))
		answers(t, "Flush", x, all)
	}
}

// TestFlushFailsWithoutRoom lets each change fail where the manifest has no room at last: the table's, and those that take it back.
func TestFlushFailsWithoutRoom(t *testing.T) {
	old, _ := fourth()
	_, _, d, _, had := waiting(t, 60000)
	used := 60000 - d.Free()
	room := len(filtered(sorted(more()), rate)) + len(tabled(more()))
	want := steps(had, 4, sorted(more()), flushed(), 0)[:7]
	want = append(want, without(want[6], table(4)))
	for change := 1; change <= len(want); change++ {
		x, l, d, all, _ := waiting(t, 6000+used+room)
		fail(t, d, change, 0)
		if e := x.Flush(l); e != api.ErrDown && (e != api.ErrFull || change < 7) {
			t.Fatalf("the change %d fails: %v", change, e)
		}
		if d.Up() {
			t.Fatalf("the change %d fails: the disk is up", change)
		}
		state(t, "a change fails", x, old, len(more()))
		is(t, "Start", d.Start(), api.OK)
		has(t, fmt.Sprintf("the change %d fails", change), d, want[change-1])
		answers(t, "a change fails", x, all)
	}
}

// TestFlushOfManyFiles has as many as a disk may have, or few less: three more are needed at once.
func TestFlushOfManyFiles(t *testing.T) {
	old, _ := fourth()
	for less := range 6 {
		x, l, d, all, had := waiting(t, 60000)
		for i := len(had); i < 400-less; i++ {
			had["y"+strconv.Itoa(i)] = ""
			is(t, "Create", d.Create("y"+strconv.Itoa(i)), api.OK)
		}
		if less < 3 {
			full(t, fmt.Sprintf("%d files", 400-less), x, l, d, old)
			answers(t, "no room", x, all)
			continue
		}
		is(t, "Flush", x.Flush(l), api.OK)
		has(t, "Flush", d, withFlushed(had))
		state(t, "Flush", x, flushed(), 0)
		answers(t, "Flush", x, all)
	}
}

// forty are files of so many tables, with an entry each, and a manifest of them in some levels.
func forty(n, next int) (api.Manifest, map[string]string, []api.Entry) {
	m := of(next, 5, 6, nil, nil, nil, nil, nil)
	files := map[string]string{}
	var all []api.Entry
	for i := range n {
		m.Levels[i%5] = append(m.Levels[i%5], i)
		e := at(uint64(i%7), i, i)
		all = append(all, e)
		files = withTable(files, i, []api.Entry{e})
	}
	return m, with(files, "map", mapped(m)), all
}

func TestFlushOfManyTables(t *testing.T) {
	m, had, all := forty(39, 39)
	d := made(t, 60000, had)
	l := logged(t, d, 1)
	x := opened(t, d, m)
	had = files(t, d)
	adds(t, x, at(3, 900, 7))
	is(t, "Flush of 39 tables", x.Flush(l), api.OK)
	m.Next, m.Check, m.Levels[0] = 40, 32, append(m.Levels[0], 39)
	had = with(withTable(had, 39, []api.Entry{at(3, 900, 7)}), "map", mapped(m))
	has(t, "Flush of 39 tables", d, had)
	all = append(all, at(3, 900, 7))
	is(t, "Flush of nothing", x.Flush(l), api.OK)
	adds(t, x, at(3, 901, 8))
	_, e := l.Append("a record")
	is(t, "Append", e, api.OK)
	full(t, "40 tables", x, l, d, m)
	if l.Sure() != l.End() {
		t.Fatalf("the log is sure up to %d of %d", l.Sure(), l.End())
	}
	answers(t, "40 tables", x, append(all, at(3, 901, 8)))
	is(t, "Merge", x.Merge(2), api.OK)
	state(t, "Merge", x, of(41, 32, 6, m.Levels[0], m.Levels[1], nil, append(m.Levels[3], 40), m.Levels[4]), 1)
	is(t, "Flush", x.Flush(l), api.OK)
	state(t, "Flush", x, of(42, 52, 6, append(m.Levels[0], 41), m.Levels[1], nil, append(m.Levels[3], 40), m.Levels[4]), 0)
	answers(t, "Flush", x, append(all, at(3, 901, 8)))
}

// TestFlushErrorsInOrder has more than one thing wrong: what ptables.Write tells comes first.
func TestFlushErrorsInOrder(t *testing.T) {
	m, had, all := forty(40, 40)
	flushes := func(m api.Manifest, had map[string]string, want api.Errno) {
		t.Helper()
		d := made(t, 60000, had)
		x := opened(t, d, m)
		adds(t, x, at(3, 900, 7))
		l := logged(t, d, 1)
		had = files(t, d)
		is(t, "Flush of 40 tables", x.Flush(l), want)
		has(t, "Flush of 40 tables", d, had)
		state(t, "Flush of 40 tables", x, m, 1)
		answers(t, "Flush of 40 tables", x, append(all, at(3, 900, 7)))
		is(t, "without a log", x.Flush(nil), api.ErrNil)
	}
	flushes(m, had, api.ErrFull)
	flushes(m, with(had, "b000040", ""), api.ErrHave)
	flushes(m, with(had, "t000040", "x"), api.ErrHave)
	m.Next = 1000000
	flushes(m, had, api.ErrArg)
}

// TestFlushOfTheLastNumber is the last one that a table may have; behind it there is none.
func TestFlushOfTheLastNumber(t *testing.T) {
	d := made(t, 60000, nil)
	l := logged(t, d, 0)
	x := opened(t, d, of(999999, 0, 3))
	adds(t, x, at(1, 0, 0))
	is(t, "Flush", x.Flush(l), api.OK)
	m := of(1000000, 0, 3, []int{999999})
	had := with(withTable(map[string]string{}, 999999, []api.Entry{at(1, 0, 0)}), "map", mapped(m))
	has(t, "Flush", d, had)
	state(t, "Flush", x, m, 0)
	adds(t, x, at(1, 1, 0))
	is(t, "Flush again", x.Flush(l), api.ErrArg)
	is(t, "Merge", x.Merge(0), api.ErrArg)
	has(t, "Flush again", d, had)
	state(t, "Flush again", x, m, 1)
	answers(t, "Flush again", x, []api.Entry{at(1, 0, 0), at(1, 1, 0)})
}

// TestFlushBesideFilesThatAreThere has a table's or a filter's file of the next number: it is not written over, nor taken away.
func TestFlushBesideFilesThatAreThere(t *testing.T) {
	old, _ := fourth()
	for _, name := range []string{"t000004", "b000004"} {
		x, l, d, all, had := waiting(t, 60000)
		had = with(had, name, "was there")
		lays(t, d, name, "was there")
		is(t, "Flush", x.Flush(l), api.ErrHave)
		has(t, "Flush", d, had)
		state(t, "Flush", x, old, len(more()))
		is(t, "Merge", x.Merge(2), api.ErrHave)
		has(t, "Merge", d, had)
		state(t, "Merge", x, old, len(more()))
		answers(t, "files are there", x, all)
		is(t, "Delete", d.Delete(name), api.OK)
		is(t, "Flush", x.Flush(l), api.OK)
		has(t, "Flush", d, withFlushed(without(had, name)))
	}
}

// TestFlushTakesTheManifestThatItHas, whatever lies on the disk.
func TestFlushTakesTheManifestThatItHas(t *testing.T) {
	for _, s := range []string{"", "spoilt", mapped(of(88, 1, 1, []int{87}))} {
		x, l, d, all, had := waiting(t, 60000)
		lays(t, d, "map", s)
		lays(t, d, "new", "what a crash left")
		is(t, "Flush", x.Flush(l), api.OK)
		has(t, "Flush", d, withFlushed(had))
		answers(t, "Flush", x, all)
	}
	x, l, d, all, had := waiting(t, 60000)
	is(t, "Delete", d.Delete("map"), api.OK)
	is(t, "Flush", x.Flush(l), api.OK)
	has(t, "Flush", d, withFlushed(had))
	answers(t, "Flush", x, all)
}

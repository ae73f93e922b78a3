package index

import (
	"fmt"
	"math"
	"math/rand"
	"slices"
	"strings"
	"testing"

	"annalist/api"
	"annalist/disk"
	"annalist/pages"
)

// P24.5

func TestRange(t *testing.T) {
	m, had := fourth()
	x := opened(t, made(t, 60000, had), m)
	adds(t, x, at(1, 3, 5), at(1, 1, 30), at(1, 0, 13), at(3, 1, 4))
	for _, c := range []struct {
		hash     uint64
		from, to int
		want     []api.Entry
	}{
		{1, 0, 9, []api.Entry{at(1, 0, 12), at(1, 0, 13), at(1, 1, 30), at(1, 2, 90), at(1, 2, 91), at(1, 3, 5)}},
		{1, 1, 2, []api.Entry{at(1, 1, 30), at(1, 2, 90), at(1, 2, 91)}},
		{1, 3, 3, []api.Entry{at(1, 3, 5)}},
		{1, -5, 0, []api.Entry{at(1, 0, 12), at(1, 0, 13)}},
		{1, 4, math.MaxInt, nil},
		{1, 2, 1, nil},
		{3, 0, 2, []api.Entry{at(3, 0, 50), at(3, 1, 4), at(3, 1, 5), at(3, 2, 5)}},
		{2, math.MinInt, math.MaxInt, nil},
		{1 << 63, math.MinInt, math.MaxInt, []api.Entry{at(1<<63, 7, 9), at(1<<63, api.MaxVersion, 3)}},
		{1 << 63, api.MaxVersion + 1, math.MaxInt, nil},
		{math.MaxUint64, 0, 0, []api.Entry{at(math.MaxUint64, 0, 70)}},
	} {
		if l, e := x.Range(c.hash, c.from, c.to); e != api.OK || !slices.Equal(l, c.want) {
			t.Fatalf("Range(%d, %d, %d): %v, %v, not %v", c.hash, c.from, c.to, l, e, c.want)
		}
	}
}

func TestLast(t *testing.T) {
	m, had := fourth()
	x := opened(t, made(t, 60000, had), m)
	adds(t, x, at(1, 3, 5), at(1, 6, 5), at(7, api.MaxVersion+1, 0), at(8, api.MaxVersion+1, 0), at(8, 4, 0))
	for _, c := range []struct {
		hash       uint64
		upto, want int
	}{
		{1, 9, 6}, {1, 6, 6}, {1, 5, 3}, {1, 3, 3}, {1, 2, 2}, {1, 1, 1}, {1, 0, 0}, {1, -1, -1}, {1, math.MinInt, -1}, {1, math.MaxInt, 6},
		{3, 9, 8}, {3, 7, 7}, {2, 9, -1}, {0, 0, 0}, {0, -1, -1}, {1 << 63, math.MaxInt, api.MaxVersion}, {1 << 63, api.MaxVersion - 1, 7}, {1 << 63, 6, -1},
		{7, math.MaxInt, -1}, {7, api.MaxVersion, -1}, {8, math.MaxInt, 4}, {math.MaxUint64, 5, 0},
	} {
		if n, e := x.Last(c.hash, c.upto); e != api.OK || n != c.want {
			t.Fatalf("Last(%d, %d): %d, %v, not %d", c.hash, c.upto, n, e, c.want)
		}
	}
}

// TestAnIndexWithoutAnything tells nothing, whatever it is asked.
func TestAnIndexWithoutAnything(t *testing.T) {
	d := made(t, 60000, nil)
	x := opened(t, d, api.Manifest{})
	answers(t, "nothing", x, nil)
	is(t, "Flush", x.Flush(logged(t, d, 0)), api.OK)
	answers(t, "nothing", x, nil)
	is(t, "Crash", d.Crash(nil), api.OK)
	answers(t, "nothing, and the disk is down", x, nil)
}

func TestWhatRangeTellsIsTheCallers(t *testing.T) {
	m, had := fourth()
	d := made(t, 60000, had)
	x := opened(t, d, m)
	adds(t, x, more()...)
	for range 2 {
		for _, h := range []uint64{1, 3, 6} {
			l, e := x.Range(h, 0, 9)
			is(t, "Range", e, api.OK)
			_ = append(l, at(h, 5, 5))
			for i := range l {
				l[i] = api.Entry{}
			}
		}
		answers(t, "a list was overwritten by the caller", x, sorted(append(four(), more())...))
	}
	has(t, "a list was overwritten by the caller", d, had)
}

// TestAskingChangesNothing but how often the disk was read.
func TestAskingChangesNothing(t *testing.T) {
	x, _, d, all, had := waiting(t, 60000)
	unsynced := d.Unsynced()
	m, _ := fourth()
	for range 2 {
		answers(t, "asking", x, all)
		state(t, "asking", x, m, len(more()))
	}
	if got := files(t, d); fmt.Sprint(got) != fmt.Sprint(had) || !slices.Equal(d.Unsynced(), unsynced) {
		t.Fatalf("the disk has %q", got)
	}
}

// asksFail holds what Range and Last tell of a hash against an error, and nothing beside it.
func asksFail(t *testing.T, what string, x *Index, hash uint64, want api.Errno) {
	t.Helper()
	if l, e := x.Range(hash, 0, 9); len(l) != 0 || e != want {
		t.Fatalf("%s: Range(%d): %v, %v, not %v", what, hash, l, e, want)
	}
	if n, e := x.Last(hash, 9); n != 0 || e != want {
		t.Fatalf("%s: Last(%d): %d, %v, not %v", what, hash, n, e, want)
	}
}

func TestAskingOfADiskThatIsDown(t *testing.T) {
	x, _, d, all, _ := waiting(t, 60000)
	is(t, "Crash", d.Crash(nil), api.OK)
	for _, h := range hashesOf(all) {
		asksFail(t, "a disk that is down", x, h, api.ErrDown)
	}
	is(t, "Start", d.Start(), api.OK)
	answers(t, "it is up again", x, all)
}

// TestAskingOfSpoiltTables has files that were spoilt while they were open: one table's error is what is told, whatever the others and memory have.
func TestAskingOfSpoiltTables(t *testing.T) {
	for n, hash := range []uint64{1, 3, 1 << 63} {
		for _, spoil := range []func(d *disk.Disk) api.Errno{
			func(d *disk.Disk) api.Errno { return d.Delete(table(n)) },
			func(d *disk.Disk) api.Errno { return d.Cut(table(n), 9) },
			func(d *disk.Disk) api.Errno {
				for i := range len(four()[n]) {
					d.Spoil(table(n), 8+24*i+8, "\x80")
				}
				return d.Spoil(table(n), 8+16, "\xff")
			},
		} {
			x, _, d, _, had := waiting(t, 60000)
			adds(t, x, at(hash, 5, 1))
			is(t, "spoil", spoil(d), api.OK)
			asksFail(t, "a table is spoilt", x, hash, api.ErrTable)
			state(t, "a table is spoilt", x, of(4, 77, 9, []int{0, 3}, nil, []int{2, 1}), len(more())+1)
			lays(t, d, table(n), had[table(n)])
			answers(t, "it is whole again", x, sorted(append(four(), more(), []api.Entry{at(hash, 5, 1)})...))
		}
	}
}

// TestAskingBesideSpoiltFilters has these overwritten, cut off or deleted while they are open, and ahead of it.
func TestAskingBesideSpoiltFilters(t *testing.T) {
	x, l, d, all, _ := waiting(t, 60000)
	spoil := func(what string) {
		for i, name := range d.Names() {
			if name[0] == 'b' {
				is(t, "Spoil", d.Spoil(name, i, strings.Repeat("\x00", 70)), api.OK)
				is(t, "Cut", d.Cut(name, 10*i), api.OK)
			}
		}
		answers(t, what, x, all)
		answers(t, what+", opened again", opened(t, d, x.Manifest()), slices.DeleteFunc(slices.Clone(all), func(e api.Entry) bool { return x.Waiting() > 0 && slices.Contains(more(), e) && e != at(1, 1, 30) }))
	}
	spoil("filters are spoilt")
	is(t, "Flush", x.Flush(l), api.OK)
	spoil("behind Flush")
	for _, level := range []int{2, 0, 1, 2, 3, 4} {
		is(t, "Merge", x.Merge(level), api.OK)
		spoil("behind Merge")
	}
}

// P24.6

// TestFlushAndMergeChangeNoAnswer goes many ways, and holds all answers against all that was added.
func TestFlushAndMergeChangeNoAnswer(t *testing.T) {
	r := rand.New(rand.NewSource(246))
	for run := range 40 {
		d := made(t, 1<<20, nil)
		l := logged(t, d, 0)
		x, e := Open(d, api.Manifest{}, []float64{0.5, 0.01, 0, 1}[run%4])
		is(t, "Open", e, api.OK)
		var all []api.Entry
		for range 30 {
			switch k := r.Intn(6); {
			case k < 3:
				for range r.Intn(12) {
					e := at(uint64(r.Intn(3)), r.Intn(10), r.Intn(3))
					adds(t, x, e)
					all = append(all, e)
				}
			case k == 3:
				is(t, "Flush", x.Flush(l), api.OK)
			default:
				if e := x.Merge(r.Intn(5)); e != api.OK {
					is(t, "Merge", e, api.ErrNone)
				}
			}
		}
		answers(t, fmt.Sprint("run ", run), x, all)
		for level := range 5 {
			x.Merge(level)
			is(t, "Flush", x.Flush(l), api.OK)
		}
		answers(t, fmt.Sprint("run ", run, ", merged"), x, all)
	}
}

// letThrough is how many of some tables' filters, as they lie on the disk, let a hash through.
func letThrough(t *testing.T, d *disk.Disk, numbers []int, hash uint64) int {
	t.Helper()
	had, n := files(t, d), 0
	for _, i := range numbers {
		if pages.May(pages.Load(had[bloom(i)]), hash) {
			n++
		}
	}
	return n
}

// TestReads has tables of many entries: of those whose filter does not let the hash through none is read, of the others each at most five times, and once for each entry.
func TestReads(t *testing.T) {
	r := rand.New(rand.NewSource(2461))
	d := made(t, 1<<20, nil)
	l := logged(t, d, 0)
	x := opened(t, d, api.Manifest{})
	var all []api.Entry
	for n := range 12 {
		for range 200 {
			e := at(uint64(n%4*1000+r.Intn(40)), r.Intn(50), 0)
			adds(t, x, e)
			all = append(all, e)
		}
		is(t, "Flush", x.Flush(l), api.OK)
		if n%5 == 4 {
			is(t, "Merge", x.Merge(0), api.OK)
		}
	}
	adds(t, x, at(7, 60, 0), at(2007, 60, 0), at(99, 60, 0))
	all = append(all, at(7, 60, 0), at(2007, 60, 0), at(99, 60, 0))
	numbers, nothing := slices.Concat(x.Manifest().Levels...), 0
	for h := range uint64(4200) {
		through := letThrough(t, d, numbers, h)
		if through == 0 {
			nothing++
		}
		for range 3 {
			from, to := r.Intn(60)-3, r.Intn(60)
			reads := d.Reads()
			m, e := x.Range(h, from, to)
			if n := d.Reads() - reads; e != api.OK || n > 5*through+len(m) || through == 0 && n > 0 {
				t.Fatalf("Range(%d, %d, %d): %v, %d reads; %d tables, %s", h, from, to, e, n, through, short(m))
			}
			reads = d.Reads()
			last, e := x.Last(h, to)
			if n := d.Reads() - reads; e != api.OK || n > 5*through {
				t.Fatalf("Last(%d, %d): %d, %v, %d reads; %d tables", h, to, last, e, n, through)
			}
		}
	}
	if nothing < 2000 || len(numbers) < 4 {
		t.Fatalf("of %d tables %d hashes are kept out by all", len(numbers), nothing)
	}
	answers(t, "many entries", x, all)
}

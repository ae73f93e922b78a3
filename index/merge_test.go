package index

import (
	"fmt"
	"math"
	"slices"
	"strconv"
	"strings"
	"testing"

	"annalist/api"
	"annalist/disk"
	"annalist/indexmap"
	"annalist/manifests"
)

// merging is an index of four tables, and more in memory, on a disk with so much room; all that it has, and the disk's files.
func merging(t *testing.T, capacity int) (x *Index, d *disk.Disk, all []api.Entry, had map[string]string) {
	t.Helper()
	m, had := fourth()
	d = made(t, capacity, had)
	x = opened(t, d, m)
	adds(t, x, more()...)
	return x, d, sorted(append(four(), more())...), had
}

// mergedOf is the manifest behind a Merge of such an index's level 0 or 2, the tables that were there, and the new one's entries.
func mergedOf(level int) (m api.Manifest, gone []int, l []api.Entry) {
	if level == 0 {
		return of(5, 77, 9, nil, []int{4}, []int{2, 1}), []int{0, 3}, four()[0]
	}
	return of(5, 77, 9, []int{0, 3}, nil, nil, []int{4}), []int{2, 1}, sorted(four()[2], four()[1])
}

// withMerged is the files behind it.
func withMerged(had map[string]string, level int) map[string]string {
	m, gone, l := mergedOf(level)
	for _, n := range gone {
		had = without(had, table(n), bloom(n))
	}
	return with(withTable(had, 4, l), "map", mapped(m))
}

// P24.4

func TestMerge(t *testing.T) {
	for _, level := range []int{0, 2} {
		x, d, all, had := merging(t, 60000)
		m, _, _ := mergedOf(level)
		is(t, "Merge", x.Merge(level), api.OK)
		has(t, "Merge", d, withMerged(had, level))
		state(t, "Merge", x, m, len(more()))
		answers(t, "Merge", x, all)
		answers(t, "opened again", opened(t, d, m), sorted(four()...))
		is(t, "Merge again", x.Merge(level), api.ErrNone)
	}
}

// TestMergeLeavesTheLogAlone has records that are not sure.
func TestMergeLeavesTheLogAlone(t *testing.T) {
	x, l, d, all, _ := waiting(t, 60000)
	is(t, "Merge", x.Merge(2), api.OK)
	if l.Sure() != 0 || d.Unsynced()[slices.Index(d.Names(), "c000000")] != 52 {
		t.Fatalf("the log is sure up to %d; the disk's unsynced bytes are %d", l.Sure(), d.Unsynced())
	}
	answers(t, "Merge", x, all)
}

// TestMergesDown goes from the first level to the last one, where a level is merged into itself.
func TestMergesDown(t *testing.T) {
	x, d, all, _ := merging(t, 60000)
	l := logged(t, d, 1)
	levels := [][]int{{0, 3}, nil, {2, 1}, nil, nil}
	next, check, waiting := 4, 77, len(more())
	for i, level := range []int{0, 1, 2, -1, 0, 1, 3, 4, 4, -1, 2, 0, 3, 4, 4} {
		if level < 0 {
			adds(t, x, at(2, i, 0))
			all = append(all, at(2, i, 0))
			is(t, "Flush", x.Flush(l), api.OK)
			levels[0], check, waiting = append(levels[0], next), l.End(), 0
		} else if len(levels[level]) == 0 {
			is(t, "Merge of nothing", x.Merge(level), api.ErrNone)
			continue
		} else {
			is(t, "Merge", x.Merge(level), api.OK)
			levels[level] = nil
			below := min(level+1, 4)
			levels[below] = append(levels[below], next)
		}
		next++
		state(t, fmt.Sprintf("the step %d", i), x, of(next, check, 9, levels...), waiting)
		answers(t, fmt.Sprintf("the step %d", i), x, all)
		want := []string{"c000000", "map", "x"}
		for _, n := range slices.Concat(levels...) {
			want = append(want, table(n), bloom(n))
		}
		if slices.Sort(want); !slices.Equal(d.Names(), want) {
			t.Fatalf("the step %d: the disk has %q, not %q", i, d.Names(), want)
		}
	}
}

// TestMergeOfWhatIsAlike has tables with the same entries, or with none.
func TestMergeOfWhatIsAlike(t *testing.T) {
	l := four()[1]
	for _, lists := range [][][]api.Entry{{l, l, l}, {l[:6], l[5:], l[2:9]}, {nil, l, nil}, {nil, nil}, {nil}, {l}, {l[11:], l[:1]}} {
		m, had := of(20, 3, 0, nil), map[string]string{}
		for i, one := range lists {
			m.Levels[0] = append(m.Levels[0], 19-i)
			had = withTable(had, 19-i, one)
		}
		d := made(t, 60000, had)
		x := opened(t, d, m)
		is(t, "Merge", x.Merge(0), api.OK)
		want := of(21, 3, 0, nil, []int{20})
		state(t, "Merge", x, want, 0)
		has(t, "Merge", d, with(withTable(map[string]string{}, 20, sorted(lists...)), "map", mapped(want)))
		answers(t, "Merge", x, slices.Concat(lists...))
	}
}

func TestMergeOfManyTables(t *testing.T) {
	m, had, all := forty(40, 40)
	m.Levels = [][]int{nil, row(0, 40)}
	d := made(t, 60000, had)
	x := opened(t, d, m)
	is(t, "Merge", x.Merge(1), api.OK)
	want := of(41, 5, 6, nil, nil, []int{40})
	state(t, "Merge", x, want, 0)
	has(t, "Merge", d, with(withTable(map[string]string{}, 40, sorted(all)), "map", mapped(want)))
	answers(t, "Merge", x, all)
}

func TestMergeOfNoTables(t *testing.T) {
	x, d, all, had := merging(t, 60000)
	m, _ := fourth()
	for _, c := range []struct {
		level int
		want  api.Errno
	}{{-1, api.ErrArg}, {5, api.ErrArg}, {6, api.ErrArg}, {math.MinInt, api.ErrArg}, {math.MaxInt, api.ErrArg}, {1, api.ErrNone}, {3, api.ErrNone}, {4, api.ErrNone}} {
		is(t, fmt.Sprint("Merge of ", c.level), x.Merge(c.level), c.want)
		has(t, "Merge", d, had)
		is(t, "Crash", d.Crash(nil), api.OK)
		is(t, fmt.Sprint("a disk that is down: Merge of ", c.level), x.Merge(c.level), c.want)
		is(t, "Start", d.Start(), api.OK)
		state(t, "Merge", x, m, len(more()))
	}
	answers(t, "Merge", x, all)
	for level := range 5 {
		is(t, "Merge of an index without tables", opened(t, d, of(9, 0, 0, nil, nil)).Merge(level), api.ErrNone)
	}
}

func TestMergeOfADiskThatIsDown(t *testing.T) {
	x, d, all, had := merging(t, 60000)
	m, _ := fourth()
	is(t, "Crash", d.Crash(nil), api.OK)
	is(t, "Merge", x.Merge(0), api.ErrDown)
	is(t, "Merge", x.Merge(2), api.ErrDown)
	state(t, "a disk that is down", x, m, len(more()))
	is(t, "Start", d.Start(), api.OK)
	has(t, "a disk that is down", d, had)
	answers(t, "it is up again", x, all)
	is(t, "Merge", x.Merge(0), api.OK)
	has(t, "Merge", d, withMerged(had, 0))
}

// TestMergeOfSpoiltTables has files that were spoilt while they were open. Those of filters make no difference.
func TestMergeOfSpoiltTables(t *testing.T) {
	m, _ := fourth()
	for _, n := range []int{1, 2} {
		for _, spoil := range []struct {
			do   func(d *disk.Disk) api.Errno
			want api.Errno
		}{
			{func(d *disk.Disk) api.Errno { return d.Delete(table(n)) }, api.ErrTable},
			{func(d *disk.Disk) api.Errno { return d.Cut(table(n), 40) }, api.ErrTable},
			{func(d *disk.Disk) api.Errno { return d.Cut(table(n), 0) }, api.ErrTable},
			{func(d *disk.Disk) api.Errno { return d.Spoil(table(n), 8+24+8, "\x80") }, api.ErrTable},
			// An entry with the hash 0 behind others: so these are not sorted any more.
			{func(d *disk.Disk) api.Errno { return d.Spoil(table(n), 8+48, strings.Repeat("\x00", 24)) }, api.ErrArg},
		} {
			x, d, _, _ := merging(t, 60000)
			is(t, "spoil", spoil.do(d), api.OK)
			had := files(t, d)
			is(t, "Merge", x.Merge(2), spoil.want)
			has(t, "Merge", d, had)
			state(t, "Merge", x, m, len(more()))
			is(t, "Merge of other tables", x.Merge(0), api.OK)
			state(t, "Merge of other tables", x, of(5, 77, 9, nil, []int{4}, []int{2, 1}), len(more()))
		}
		x, d, all, had := merging(t, 60000)
		is(t, "Delete", d.Delete(bloom(n)), api.OK)
		is(t, "Spoil", d.Spoil(bloom(3-n), 0, strings.Repeat("\xff", 64)), api.OK)
		is(t, "Merge", x.Merge(2), api.OK)
		has(t, "Merge", d, withMerged(had, 2))
		answers(t, "Merge", x, all)
	}
}

// TestMergeFails lets each change fail: as long as the manifest is not another one, all is as it was; behind that the new table is there, and what lacks is that old files go.
func TestMergeFails(t *testing.T) {
	old, _ := fourth()
	for _, level := range []int{0, 2} {
		m, gone, l := mergedOf(level)
		for _, keep := range []int{0, 1, 20, 64, 1000} {
			_, _, all, had := merging(t, 60000)
			want := steps(had, 4, l, m, keep)
			laid := with(withTable(had, 4, l), "map", mapped(m))
			swapped := len(want)
			for _, n := range gone {
				want = append(want, laid, without(laid, table(n)))
				laid = without(laid, table(n), bloom(n))
			}
			for change := range want {
				x, d, _, _ := merging(t, 60000)
				fail(t, d, change, keep)
				is(t, fmt.Sprintf("Merge, the change %d fails", change), x.Merge(level), api.ErrDown)
				if d.Up() {
					t.Fatalf("the change %d fails: the disk is up", change)
				}
				is(t, "Start", d.Start(), api.OK)
				has(t, fmt.Sprintf("the change %d fails", change), d, want[change])
				now := old
				if change >= swapped {
					now = m
				}
				state(t, "a change fails", x, now, len(more()))
				answers(t, "a change fails", x, all)
				loads(t, "a change fails", d, now)
			}
			x, d, _, _ := merging(t, 60000)
			fail(t, d, len(want), keep)
			is(t, "the change behind Merge fails", x.Merge(level), api.OK)
			is(t, "Create", d.Create("y"), api.ErrDown)
			is(t, "Start", d.Start(), api.OK)
			has(t, "the change behind Merge fails", d, withMerged(had, level))
		}
	}
}

// loads holds what lies on a disk against a manifest: behind a Clean an index of it has the four tables' entries.
func loads(t *testing.T, what string, d *disk.Disk, want api.Manifest) {
	t.Helper()
	m, e := indexmap.Load(d)
	if e != api.OK || !manifests.Same(m, want) {
		t.Fatalf("%s: Load: %s, %v, not %s", what, show(m), e, show(want))
	}
	is(t, "Clean", indexmap.Clean(d, m), api.OK)
	answers(t, what+": opened again", opened(t, d, m), sorted(four()...))
}

// TestMergeHasRoom is tried with each number of bytes free about those where there is room for the table, and where there is room for the manifest as well: what goes afterwards is not room yet.
func TestMergeHasRoom(t *testing.T) {
	old, _ := fourth()
	for _, level := range []int{0, 2} {
		m, _, l := mergedOf(level)
		_, d, all, had := merging(t, 60000)
		used := 60000 - d.Free()
		laid, manifest := len(filtered(l, rate))+len(tabled(l)), len(mapped(m))
		for _, room := range []int{0, laid - 1, laid, laid + 1, laid + manifest - 1, laid + manifest, laid + manifest + 1} {
			x, d, _, _ := merging(t, 6000+used+room)
			want, files, now := api.ErrFull, had, old
			if room >= laid+manifest {
				want, files, now = api.OK, withMerged(had, level), m
			}
			is(t, fmt.Sprintf("%d bytes: Merge", room), x.Merge(level), want)
			has(t, "Merge", d, files)
			state(t, "Merge", x, now, len(more()))
			answers(t, "Merge", x, all)
		}
	}
}

func TestMergeOfManyFiles(t *testing.T) {
	old, _ := fourth()
	for less := range 6 {
		x, d, all, had := merging(t, 60000)
		for i := len(had); i < 400-less; i++ {
			had["y"+strconv.Itoa(i)] = ""
			is(t, "Create", d.Create("y"+strconv.Itoa(i)), api.OK)
		}
		if less < 3 {
			is(t, "Merge", x.Merge(0), api.ErrFull)
			has(t, "Merge", d, had)
			state(t, "Merge", x, old, len(more()))
			answers(t, "Merge", x, all)
			continue
		}
		is(t, "Merge", x.Merge(0), api.OK)
		has(t, "Merge", d, withMerged(had, 0))
		answers(t, "Merge", x, all)
	}
}

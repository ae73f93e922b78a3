package indexmap

import (
	"encoding/binary"
	"fmt"
	"hash/crc32"
	"maps"
	"math"
	"math/rand"
	"slices"
	"strconv"
	"strings"
	"testing"

	"annalist/api"
	"annalist/disk"
)

// of is a manifest, shortly.
func of(next, check int, seed uint64, levels ...[]int) api.Manifest {
	return api.Manifest{Next: next, Check: check, Seed: seed, Levels: levels}
}

// row is so many numbers, from one on.
func row(from, n int) []int {
	var l []int
	for i := range n {
		l = append(l, from+i)
	}
	return l
}

// taken is a manifest whose lists no others share.
func taken(m api.Manifest) api.Manifest {
	var levels [][]int
	for _, level := range m.Levels {
		levels = append(levels, append([]int(nil), level...))
	}
	m.Levels = levels
	return m
}

// bare is a manifest without empty levels at the end.
func bare(m api.Manifest) api.Manifest {
	for len(m.Levels) > 0 && len(m.Levels[len(m.Levels)-1]) == 0 {
		m.Levels = m.Levels[:len(m.Levels)-1]
	}
	return m
}

// show is a manifest as a failure tells it; two are alike, if this is.
func show(m api.Manifest) string {
	return fmt.Sprintf("[Next %d, Check %d, Seed %d: %v]", m.Next, m.Check, m.Seed, m.Levels)
}

// laid is the bytes of a manifest, by the library, with all levels that it has, also if it may not be.
func laid(m api.Manifest) string {
	b := binary.BigEndian.AppendUint32([]byte("imap"), uint32(m.Next))
	b = binary.BigEndian.AppendUint32(b, uint32(m.Check))
	b = binary.BigEndian.AppendUint64(b, m.Seed)
	b = append(b, byte(len(m.Levels)))
	for _, level := range m.Levels {
		b = append(b, byte(len(level)))
		for _, n := range level {
			b = binary.BigEndian.AppendUint32(b, uint32(n))
		}
	}
	return string(binary.LittleEndian.AppendUint32(b, crc32.ChecksumIEEE(b)))
}

// some are manifests that may be, without empty levels at the end.
func some() []api.Manifest {
	return []api.Manifest{
		{}, of(1, 0, 0, []int{0}), of(7, 4096, 1, []int{3, 4}, []int{5}), of(9, 300, 1<<60, []int{7, 8}, nil, []int{1}),
		of(1000000, 1<<31-1, math.MaxUint64, nil, nil, nil, nil, []int{999999, 0, 255, 256, 65536}), of(1000000, 0, 0), of(0, 1<<31-1, 1<<63),
		of(40, 12, 7, row(0, 40)), of(40, 12, 7, row(0, 8), row(8, 8), row(16, 8), row(24, 8), row(32, 8)),
	}
}

// wrong are manifests that may not be, each by one thing alone.
func wrong() []api.Manifest {
	return []api.Manifest{
		of(-1, 0, 0), of(1000001, 0, 0), of(0, -1, 0), of(0, 1<<31, 0), of(1, 0, 0, []int{1}), of(9, 0, 0, []int{-1}), of(9, 0, 0, []int{1}, []int{1}),
		of(99, 0, 0, row(0, 41)), of(9, 0, 0, nil, nil, nil, nil, nil, nil), of(math.MinInt, math.MaxInt, 0, []int{math.MinInt}, []int{math.MaxInt}),
	}
}

// drawn is a manifest that may be, of few tables' numbers.
func drawn(r *rand.Rand) api.Manifest {
	m := of(30+r.Intn(70), r.Intn(1<<31), r.Uint64())
	numbers := r.Perm(30)[:r.Intn(20)]
	for range r.Intn(6) {
		n := r.Intn(len(numbers) + 1)
		m.Levels = append(m.Levels, numbers[:n:n])
		numbers = numbers[n:]
	}
	return m
}

// is holds an error against the one that is to be.
func is(t *testing.T, what string, got, want api.Errno) {
	t.Helper()
	if got != want {
		t.Fatalf("%s: %v, not %v", what, got, want)
	}
}

// made is a new disk, with some files, that are sure.
func made(t *testing.T, capacity int, with map[string]string) *disk.Disk {
	t.Helper()
	d, e := disk.New(capacity)
	if d == nil || e != api.OK {
		t.Fatalf("disk.New(%d): %v, %v", capacity, d, e)
	}
	for _, name := range slices.Sorted(maps.Keys(with)) {
		lays(t, d, name, with[name])
	}
	return d
}

// lays puts a file on a disk, in the place of one that was; its bytes are sure.
func lays(t *testing.T, d *disk.Disk, name, s string) {
	t.Helper()
	d.Delete(name)
	for _, e := range []api.Errno{d.Create(name), d.Append(name, s), d.Sync(name)} {
		is(t, "lay the file "+strconv.Quote(name), e, api.OK)
	}
}

// has holds the files of a disk that is up against some; what says of which ones how many bytes are not sure.
func has(t *testing.T, what string, d *disk.Disk, want map[string]string, unsure map[string]int) {
	t.Helper()
	got := map[string]string{}
	for _, name := range d.Names() {
		n, e := d.Size(name)
		is(t, what+": Size", e, api.OK)
		got[name], e = d.Read(name, 0, n)
		is(t, what+": Read", e, api.OK)
	}
	if !maps.Equal(got, want) {
		t.Fatalf("%s: the disk has %.900q, not %.900q", what, got, want)
	}
	for i, n := range d.Unsynced() {
		if name := d.Names()[i]; n != unsure[name] {
			t.Fatalf("%s: %d bytes of %q are not sure, not %d", what, n, name, unsure[name])
		}
	}
}

// with is some files, with others in their places or beside them.
func with(files map[string]string, more ...string) map[string]string {
	m := maps.Clone(files)
	for i := 0; i < len(more); i += 2 {
		m[more[i]] = more[i+1]
	}
	return m
}

// without is some files, but for these.
func without(files map[string]string, less ...string) map[string]string {
	m := maps.Clone(files)
	for _, name := range less {
		delete(m, name)
	}
	return m
}

// loads holds what Load tells against a manifest, as it is told: without empty levels at the end.
func loads(t *testing.T, what string, d *disk.Disk, want api.Manifest) {
	t.Helper()
	if m, e := Load(d); e != api.OK || show(m) != show(bare(want)) {
		t.Fatalf("%s: Load: %s, %v, not %s", what, show(m), e, show(bare(want)))
	}
}

// fails holds what Load tells against an error, and nothing beside it.
func fails(t *testing.T, what string, d *disk.Disk, want api.Errno) {
	t.Helper()
	if m, e := Load(d); e != want || show(m) != show(api.Manifest{}) {
		t.Fatalf("%s: Load: %s, %v, not %v", what, show(m), e, want)
	}
}

// swaps holds what Swap tells against an error, and the manifest against what it was.
func swaps(t *testing.T, what string, d *disk.Disk, m api.Manifest, want api.Errno) {
	t.Helper()
	was := show(taken(m))
	is(t, what+": Swap of "+was, Swap(d, m), want)
	if show(taken(m)) != was {
		t.Fatalf("%s: Swap changed the manifest: %s, not %s", what, show(m), was)
	}
}

// none are disks that are none.
func none(t *testing.T) []*disk.Disk {
	t.Helper()
	copied := *made(t, 20000, map[string]string{"map": laid(of(3, 4, 5)), "new": "abc", "t000000": "x"})
	return []*disk.Disk{nil, {}, &copied}
}

// others are files that are neither the manifest's nor orphans of one with the tables 3, 4 and 5.
func others() map[string]string {
	return map[string]string{"c000000": "log", "c000009": "", "t000003": "three", "b000003": "filter", "t000005": "", "map0": "x", "ma": "y", "x": "z", "\x00": "nought", "news": "n"}
}

// P23.1

func TestExamples(t *testing.T) {
	d := made(t, 60000, nil)
	fails(t, "a new disk", d, api.ErrNone)
	m := of(7, 4096, 1, []int{3, 4}, []int{5})
	swaps(t, "a new disk", d, m, api.OK)
	loads(t, "a new disk", d, m)
	if l := d.Names(); !slices.Equal(l, []string{"map"}) {
		t.Fatalf("behind Swap there are %q", l)
	}
}

func TestLoad(t *testing.T) {
	r := rand.New(rand.NewSource(231))
	l := some()
	for range 500 {
		l = append(l, drawn(r))
	}
	for _, m := range l {
		m = bare(m)
		files := with(others(), "map", laid(m), "new", laid(of(1, 2, 3)))
		d := made(t, 60000, files)
		reads := d.Reads()
		loads(t, "a manifest", d, m)
		if d.Reads() != reads+1 {
			t.Fatalf("Load of %s: %d reads", show(m), d.Reads()-reads)
		}
		has(t, "Load", d, files, nil)
	}
}

func TestLoadWithoutAManifest(t *testing.T) {
	d := made(t, 60000, nil)
	fails(t, "a new disk", d, api.ErrNone)
	files := with(others(), "new", laid(of(1, 2, 3)), "Map", laid(of(1, 2, 3)), "map ", laid(of(1, 2, 3)))
	d = made(t, 60000, files)
	fails(t, "a disk with other files", d, api.ErrNone)
	has(t, "Load", d, files, nil)
}

func TestLoadOfASpoiltManifest(t *testing.T) {
	for _, m := range some() {
		s := laid(m)
		d := made(t, 60000, map[string]string{"map": s + "x"})
		fails(t, "a byte behind", d, api.ErrTable)
		for i := range len(s) {
			lays(t, d, "map", s)
			is(t, "Spoil", d.Spoil("map", i, string([]byte{s[i] + 1 + byte(i%255)})), api.OK)
			fails(t, "a byte is another one", d, api.ErrTable)
		}
		lays(t, d, "map", s)
		for n := len(s) - 1; n >= 0; n-- {
			is(t, "Cut", d.Cut("map", n), api.OK)
			fails(t, "it is cut off", d, api.ErrTable)
		}
	}
	for _, m := range []api.Manifest{of(1000001, 0, 0), of(0, 1<<31, 0), of(1, 0, 0, []int{1}), of(9, 0, 0, []int{1}, []int{1}), of(9, 0, 0, []int{1}, nil)} {
		fails(t, "it may not be, under a sum that is right", made(t, 60000, map[string]string{"map": laid(m)}), api.ErrTable)
	}
}

// TestLoadOfWhatIsNotSure has all bytes, also those that a crash may take away.
func TestLoadOfWhatIsNotSure(t *testing.T) {
	m := of(7, 4096, 1, []int{3, 4}, []int{5})
	s := laid(m)
	d := made(t, 60000, map[string]string{"map": s[:10]})
	fails(t, "ten bytes", d, api.ErrTable)
	is(t, "Append", d.Append("map", s[10:]), api.OK)
	loads(t, "the others are not sure", d, m)
	has(t, "Load", d, map[string]string{"map": s}, map[string]int{"map": len(s) - 10})
}

func TestLoadOfNoDisk(t *testing.T) {
	for _, d := range none(t) {
		fails(t, "no disk", d, api.ErrNil)
	}
	for _, files := range []map[string]string{nil, {"map": ""}, {"map": laid(of(1, 2, 3))}} {
		d := made(t, 60000, files)
		is(t, "Crash", d.Crash(nil), api.OK)
		fails(t, "a disk that is down", d, api.ErrDown)
		is(t, "Start", d.Start(), api.OK)
		if len(files["map"]) > 0 {
			loads(t, "it is up again", d, of(1, 2, 3))
		}
	}
}

func TestWhatIsLoadedIsTheCallers(t *testing.T) {
	m := of(9, 300, 1<<60, []int{7, 8}, nil, []int{1})
	d := made(t, 60000, map[string]string{"map": laid(m)})
	got, _ := Load(d)
	for _, level := range got.Levels {
		_ = append(level, 5)
		for i := range level {
			level[i] = -1
		}
	}
	loads(t, "a manifest was overwritten by the caller", d, m)
}

// P23.2

func TestSwap(t *testing.T) {
	r := rand.New(rand.NewSource(232))
	l := some()
	for range 300 {
		l = append(l, drawn(r))
	}
	for i, m := range l {
		files := others()
		for _, was := range []map[string]string{{}, {"map": laid(l[(i+1)%len(l)])}, {"map": "none"}, {"map": ""}, {"new": ""}, {"new": "abc", "map": laid(m)}, {"new": laid(m)}} {
			d := made(t, 60000, files)
			for name, s := range was {
				lays(t, d, name, s)
			}
			swaps(t, "a disk", d, m, api.OK)
			has(t, "Swap", d, with(files, "map", laid(bare(m))), nil)
			loads(t, "behind Swap", d, m)
		}
	}
}

// TestSwapsStandForThemselves lays one manifest behind the other: each is all that is left.
func TestSwapsStandForThemselves(t *testing.T) {
	d := made(t, 60000, others())
	for range 3 {
		for _, m := range some() {
			swaps(t, "one behind the other", d, m, api.OK)
			loads(t, "one behind the other", d, m)
		}
	}
	l := some()
	has(t, "Swap", d, with(others(), "map", laid(l[len(l)-1])), nil)
}

func TestSwapOfEmptyLevelsAtTheEnd(t *testing.T) {
	d := made(t, 60000, nil)
	swaps(t, "empty levels", d, of(7, 0, 0, []int{3}, nil, nil), api.OK)
	has(t, "Swap", d, map[string]string{"map": laid(of(7, 0, 0, []int{3}))}, nil)
}

// TestSwapLeavesWhatIsNotSure has files beside it, of which some bytes are not sure.
func TestSwapLeavesWhatIsNotSure(t *testing.T) {
	d := made(t, 60000, map[string]string{"c000000": "log", "map": "old", "new": "n"})
	for _, name := range []string{"c000000", "map", "new"} {
		is(t, "Append", d.Append(name, "more"), api.OK)
	}
	m := of(1, 2, 3)
	swaps(t, "a disk", d, m, api.OK)
	has(t, "Swap", d, map[string]string{"c000000": "logmore", "map": laid(m)}, map[string]int{"c000000": 4})
}

// TestSwapOfWhatMayNotBe changes nothing, and leaves even the file new.
func TestSwapOfWhatMayNotBe(t *testing.T) {
	for _, m := range wrong() {
		files := with(others(), "map", laid(of(1, 2, 3)), "new", "abc")
		d := made(t, 60000, files)
		is(t, "Fail", d.Fail(0, nil), api.OK)
		swaps(t, "may not be", d, m, api.ErrArg)
		has(t, "Swap", d, files, nil)
		d = made(t, 0, nil)
		swaps(t, "may not be, and there is no room", d, m, api.ErrArg)
		is(t, "Crash", d.Crash(nil), api.OK)
		swaps(t, "may not be, and the disk is down", d, m, api.ErrArg)
	}
}

func TestSwapOfNoDisk(t *testing.T) {
	for _, m := range append(some(), wrong()...) {
		for _, d := range none(t) {
			swaps(t, "no disk", d, m, api.ErrNil)
		}
	}
}

func TestSwapOfADiskThatIsDown(t *testing.T) {
	for _, files := range []map[string]string{{}, {"new": "abc"}, {"map": laid(of(1, 2, 3))}, {"map": laid(of(1, 2, 3)), "new": "abc"}} {
		for _, capacity := range []int{1000, 60000} {
			d := made(t, capacity, files)
			is(t, "Crash", d.Crash(nil), api.OK)
			for _, m := range some() {
				swaps(t, "a disk that is down", d, m, api.ErrDown)
			}
			is(t, "Start", d.Start(), api.OK)
			has(t, "Swap", d, files, nil)
		}
	}
}

// TestSwapAsksForRoom has just as much room as is asked for, a byte less, and a byte more; what new had is room as well, what the manifest there has is none.
func TestSwapAsksForRoom(t *testing.T) {
	for _, m := range some() {
		s := laid(m)
		for _, files := range []map[string]string{{}, {"map": laid(of(1, 2, 3))}, {"map": strings.Repeat("m", 300)}, {"c000000": strings.Repeat("l", 4096), "map": ""}} {
			used := 0
			for _, data := range files {
				used += len(data)
			}
			for _, lost := range []int{-1, 0, 1, 500, api.Reserve} {
				for _, more := range []int{-1, 0, 1} {
					what := fmt.Sprintf("%d bytes more than Reserve, and %d of new", more, lost)
					d := made(t, used+len(s)+api.Reserve+more, files)
					if lost >= 0 {
						lays(t, d, "new", strings.Repeat("n", lost))
					}
					if more < 0 {
						swaps(t, what, d, m, api.ErrFull)
						has(t, what, d, files, nil)
					} else {
						swaps(t, what, d, m, api.OK)
						has(t, what, d, with(files, "map", s), nil)
					}
				}
			}
		}
	}
}

func TestSwapOnASmallDisk(t *testing.T) {
	for _, capacity := range []int{0, 1, 24, 25, api.Reserve - 1, api.Reserve, api.Reserve + 24} {
		d := made(t, capacity, map[string]string{"map": "", "new": ""})
		swaps(t, "a small disk", d, api.Manifest{}, api.ErrFull)
		has(t, "Swap", d, map[string]string{"map": ""}, nil)
	}
	d := made(t, api.Reserve+25, nil)
	swaps(t, "just room", d, api.Manifest{}, api.OK)
	loads(t, "just room", d, api.Manifest{})
}

// TestSwapWithoutRoomForAFile has as many files as a disk may have: then there is no room for new, but where it was there.
func TestSwapWithoutRoomForAFile(t *testing.T) {
	for _, c := range []struct {
		first string
		many  int
		want  api.Errno
	}{{"map", 398, api.OK}, {"map", 399, api.ErrFull}, {"new", 399, api.OK}, {"c000000", 399, api.ErrFull}, {"c000000", 398, api.OK}} {
		files := map[string]string{c.first: "a"}
		for i := range c.many {
			files[fmt.Sprintf("f%03d", i)] = ""
		}
		d := made(t, 60000, files)
		m := of(1, 2, 3)
		swaps(t, fmt.Sprintf("%d files and %s", c.many, c.first), d, m, c.want)
		if c.want == api.OK {
			files = with(without(files, "new"), "map", laid(m))
		}
		has(t, "Swap", d, files, nil)
	}
}

// TestSwapTakesTheseSteps lets each change of Swap fail: what is on the disk then is what the steps ahead of it made.
func TestSwapTakesTheseSteps(t *testing.T) {
	m := of(7, 4096, 1, []int{3, 4}, []int{5})
	s := laid(m)
	for _, old := range []map[string]string{others(), with(others(), "map", "old"), with(others(), "map", laid(of(1, 2, 3)))} {
		for _, lost := range []bool{false, true} {
			for _, keep := range []int{0, 1, len(s) - 1, len(s), 1000} {
				kept := s[:min(keep, len(s))]
				stages := []map[string]string{old, with(old, "new", kept), with(old, "new", kept), with(old, "new", s), with(old, "map", s)}
				start := old
				if lost {
					start = with(old, "new", "abc")
					stages = slices.Insert(stages, 0, start)
				}
				for k, want := range stages {
					what := fmt.Sprintf("the change %d fails, %d bytes are kept, of new: %v", k, keep, lost)
					d := made(t, 60000, start)
					is(t, "Fail", d.Fail(k, slices.Repeat([]int{keep}, 20)), api.OK)
					if k == len(stages)-1 {
						swaps(t, what, d, m, api.OK)
						is(t, what+": the next change", d.Create("y"), api.ErrDown)
					} else {
						swaps(t, what, d, m, api.ErrDown)
					}
					if d.Up() {
						t.Fatalf("%s: the disk is up", what)
					}
					is(t, "Start", d.Start(), api.OK)
					has(t, what, d, want, nil)
				}
			}
		}
	}
}

// TestSwapGoesDownAheadOfTheQuestionForRoom has no room as well: new is deleted first, and that is told.
func TestSwapGoesDownAheadOfTheQuestionForRoom(t *testing.T) {
	files := map[string]string{"new": "abc"}
	d := made(t, 1000, files)
	is(t, "Fail", d.Fail(0, nil), api.OK)
	swaps(t, "no room, and the first change fails", d, of(1, 2, 3), api.ErrDown)
	is(t, "Start", d.Start(), api.OK)
	has(t, "Swap", d, files, nil)
	is(t, "Fail", d.Fail(1, nil), api.OK)
	swaps(t, "no room, and the second change fails", d, of(1, 2, 3), api.ErrFull)
	has(t, "Swap", d, nil, nil)
}

// TestWhatWasSwappedIsNotLookedAtLater overwrites the lists that were handed in.
func TestWhatWasSwappedIsNotLookedAtLater(t *testing.T) {
	d := made(t, 60000, nil)
	shared := row(0, 10)
	m := of(50, 0, 0, shared[2:4], nil, shared[5:6])
	swaps(t, "lists that share memory", d, m, api.OK)
	if !slices.Equal(shared, row(0, 10)) {
		t.Fatalf("Swap changed what it was handed: %v", shared)
	}
	for i := range shared {
		shared[i] = 40 - i
	}
	loads(t, "they were overwritten", d, of(50, 0, 0, []int{2, 3}, nil, []int{5}))
}

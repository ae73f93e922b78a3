package indexmap

import (
	"fmt"
	"math/rand"
	"regexp"
	"slices"
	"strconv"
	"testing"

	"annalist/api"
	"annalist/disk"
)

// tableFile is the names of tables' and filters' files.
var tableFile = regexp.MustCompile(`^[tb]([0-9]{6})$`)

// orphaned is the chapter's words: of some names, in order, those of orphans.
func orphaned(files []string, m api.Manifest) []string {
	var l []string
	for _, name := range slices.Sorted(slices.Values(files)) {
		if name == "new" {
			l = append(l, name)
		}
		if found := tableFile.FindStringSubmatch(name); found != nil {
			n, _ := strconv.Atoi(found[1])
			if !slices.ContainsFunc(m.Levels, func(level []int) bool { return slices.Contains(level, n) }) {
				l = append(l, name)
			}
		}
	}
	return l
}

// orphans holds what Orphans tells against some names, and the manifest against what it was.
func orphans(t *testing.T, what string, d *disk.Disk, m api.Manifest, want []string) {
	t.Helper()
	was := show(taken(m))
	if got := Orphans(d, m); !slices.Equal(got, want) {
		t.Fatalf("%s: Orphans of %s: %q, not %q", what, was, got, want)
	}
	if show(taken(m)) != was {
		t.Fatalf("%s: Orphans changed the manifest: %s, not %s", what, show(m), was)
	}
}

// cleans holds what Clean tells against an error, and the manifest against what it was.
func cleans(t *testing.T, what string, d *disk.Disk, m api.Manifest, want api.Errno) {
	t.Helper()
	was := show(taken(m))
	is(t, what+": Clean of "+was, Clean(d, m), want)
	if show(taken(m)) != was {
		t.Fatalf("%s: Clean changed the manifest: %s, not %s", what, show(m), was)
	}
}

// likeFiles are names that are tables' and filters', and such as are like these.
func likeFiles() []string {
	return []string{
		"t000000", "b000000", "t000001", "b000001", "t000003", "b000003", "b000004", "t000005", "t000012", "b000012", "t999998", "b999999", "t999999", "b099999", "t000100",
		"new", "map", "c000000", "c000001", "c000003", "c999999", "t00000", "t0000001", "t00000a", "T000001", "B000001", "a000001", "u000001", "t+00001", "t-00001", "t 00001",
		"x000001", "000001", "t", "b", "c", "\x00", "new ", "neW", "NEW", "ne", "news", "Map", "mapt000001", " t000001", "t000001 ", "t\xd9\xa000000", "b00000\xff",
	}
}

// laidOut is a disk with these files, each with its name as bytes.
func laidOut(t *testing.T, files []string) (*disk.Disk, map[string]string) {
	t.Helper()
	m := map[string]string{}
	for _, name := range files {
		m[name] = name
	}
	return made(t, 60000, m), m
}

// P23.3

func TestOrphans(t *testing.T) {
	d, files := laidOut(t, likeFiles())
	for _, c := range []struct {
		m    api.Manifest
		want []string
	}{
		{api.Manifest{}, []string{"b000000", "b000001", "b000003", "b000004", "b000012", "b099999", "b999999", "new", "t000000", "t000001", "t000003", "t000005", "t000012", "t000100", "t999998", "t999999"}},
		{of(13, 0, 0, []int{3}, nil, []int{12, 0}), []string{"b000001", "b000004", "b099999", "b999999", "new", "t000001", "t000005", "t000100", "t999998", "t999999"}},
		{of(1000000, 0, 0, []int{0, 1, 3}, []int{4, 5, 12}, []int{999998}, []int{999999, 99999, 100}), []string{"new"}},
		{of(1000000, 0, 0, []int{999999}, []int{1}), []string{"b000000", "b000003", "b000004", "b000012", "b099999", "new", "t000000", "t000003", "t000005", "t000012", "t000100", "t999998"}},
	} {
		orphans(t, "a disk", d, c.m, c.want)
		has(t, "Orphans", d, files, nil)
		reads := d.Reads()
		if Orphans(d, c.m); d.Reads() != reads {
			t.Fatalf("Orphans reads %d times", d.Reads()-reads)
		}
	}
}

func TestOrphansOfFewFiles(t *testing.T) {
	for _, c := range []struct {
		files, want []string
	}{
		{nil, nil},
		{[]string{"new"}, []string{"new"}},
		{[]string{"map", "c000007"}, nil},
		{[]string{"t000007"}, nil},
		{[]string{"b000007"}, nil},
		{[]string{"b000007", "t000007"}, nil},
		{[]string{"t000008"}, []string{"t000008"}},
		{[]string{"b000008"}, []string{"b000008"}},
		{[]string{"b000007", "t000008", "new"}, []string{"new", "t000008"}},
		{[]string{"b000008", "t000007", "new", "c000008"}, []string{"b000008", "new"}},
	} {
		d, files := laidOut(t, c.files)
		m := of(9, 0, 0, nil, []int{7})
		orphans(t, "a disk", d, m, c.want)
		cleans(t, "a disk", d, m, api.OK)
		has(t, "Clean", d, without(files, c.want...), nil)
		orphans(t, "behind Clean", d, m, nil)
	}
}

// TestOrphansOfAnyManifest has those that may not be as well: their numbers alone make the difference.
func TestOrphansOfAnyManifest(t *testing.T) {
	l := append(some(), wrong()...)
	l = append(l, of(0, 0, 0, []int{3, 3, 12}), of(-5, -5, 0, nil, nil, nil, nil, nil, nil, []int{1000000, -1, 12}), of(0, 0, 0, row(-5, 300)), of(0, 0, 0, slices.Repeat([][]int{{5}}, 300)...))
	for _, m := range l {
		d, files := laidOut(t, likeFiles())
		want := orphaned(likeFiles(), m)
		orphans(t, "any manifest", d, m, want)
		cleans(t, "any manifest", d, m, api.OK)
		has(t, "Clean", d, without(files, want...), nil)
	}
}

func TestOrphansOfNoise(t *testing.T) {
	r := rand.New(rand.NewSource(233))
	for range 2000 {
		var l []string
		for range r.Intn(40) {
			name := fmt.Sprintf("%c%06d", "tbctb"[r.Intn(5)], r.Intn(35))
			if r.Intn(8) == 0 {
				name = likeFiles()[r.Intn(len(likeFiles()))]
			}
			if !slices.Contains(l, name) {
				l = append(l, name)
			}
		}
		d, files := laidOut(t, l)
		m := drawn(r)
		want := orphaned(l, m)
		orphans(t, "noise", d, m, want)
		has(t, "Orphans", d, files, nil)
		cleans(t, "noise", d, m, api.OK)
		has(t, "Clean", d, without(files, want...), nil)
		orphans(t, "behind Clean", d, m, nil)
	}
}

// TestOrphansOfADiskThatIsDown are told all the same: its files' names are.
func TestOrphansOfADiskThatIsDown(t *testing.T) {
	d, _ := laidOut(t, likeFiles())
	m := of(13, 0, 0, []int{3}, nil, []int{12, 0})
	want := orphaned(likeFiles(), m)
	is(t, "Crash", d.Crash(nil), api.OK)
	orphans(t, "a disk that is down", d, m, want)
}

func TestWhatOrphansTellIsTheCallers(t *testing.T) {
	d, _ := laidOut(t, likeFiles())
	m := of(13, 0, 0, []int{3}, nil, []int{12, 0})
	want := orphaned(likeFiles(), m)
	got := Orphans(d, m)
	_ = append(got, "x")
	for i := range got {
		got[i] = "overwritten"
	}
	orphans(t, "a list was overwritten by the caller", d, m, want)
}

func TestOrphansOfNoDisk(t *testing.T) {
	for _, m := range append(some(), wrong()...) {
		for _, d := range none(t) {
			orphans(t, "no disk", d, m, nil)
			cleans(t, "no disk", d, m, api.ErrNil)
		}
	}
}

// TestCleanOfADiskThatIsDown is told so, whether there is anything to delete or not.
func TestCleanOfADiskThatIsDown(t *testing.T) {
	for _, l := range [][]string{nil, {"map"}, {"new"}, {"t000003"}, likeFiles()} {
		d, files := laidOut(t, l)
		is(t, "Crash", d.Crash(nil), api.OK)
		for _, m := range append(some(), wrong()...) {
			cleans(t, "a disk that is down", d, m, api.ErrDown)
		}
		is(t, "Start", d.Start(), api.OK)
		has(t, "Clean", d, files, nil)
	}
}

// TestCleanFails lets each deletion fail: those ahead of it, in order, are done.
func TestCleanFails(t *testing.T) {
	m := of(13, 0, 0, []int{3}, nil, []int{12, 0})
	want := orphaned(likeFiles(), m)
	for k := range len(want) + 1 {
		d, files := laidOut(t, likeFiles())
		is(t, "Fail", d.Fail(k, nil), api.OK)
		if k == len(want) {
			cleans(t, "the change behind it fails", d, m, api.OK)
			is(t, "the next change", d.Create("y"), api.ErrDown)
		} else {
			cleans(t, fmt.Sprintf("the change %d fails", k), d, m, api.ErrDown)
		}
		if d.Up() {
			t.Fatalf("Clean, the change %d fails: the disk is up", k)
		}
		is(t, "Start", d.Start(), api.OK)
		has(t, "Clean", d, without(files, want[:k]...), nil)
		orphans(t, "what is left", d, m, want[k:])
		cleans(t, "what is left", d, m, api.OK)
		has(t, "Clean again", d, without(files, want...), nil)
	}
}

// TestCleanLeavesWhatIsNotSure has no other file changed, nor made sure.
func TestCleanLeavesWhatIsNotSure(t *testing.T) {
	d := made(t, 60000, map[string]string{"c000000": "log", "map": "m", "t000003": "t", "b000003": "b", "t000004": "", "x": "y"})
	unsure := map[string]int{"c000000": 4, "map": 4, "t000003": 4, "b000003": 4, "x": 4}
	for _, name := range append(d.Names(), "new") {
		if name == "new" {
			is(t, "Create", d.Create(name), api.OK)
		}
		is(t, "Append", d.Append(name, "more"), api.OK)
	}
	cleans(t, "a disk", d, of(4, 0, 0, []int{3}), api.OK)
	has(t, "Clean", d, map[string]string{"c000000": "logmore", "map": "mmore", "t000003": "tmore", "b000003": "bmore", "x": "ymore"}, unsure)
}

// TestCleanOfManyFiles has as many as a disk may have.
func TestCleanOfManyFiles(t *testing.T) {
	var l []string
	for n := range 400 {
		l = append(l, fmt.Sprintf("%c%06d", "tb"[n%2], n/2))
	}
	m := of(1000, 0, 0, row(0, 7), nil, row(190, 33))
	d, files := laidOut(t, l)
	want := orphaned(l, m)
	orphans(t, "400 files", d, m, want)
	cleans(t, "400 files", d, m, api.OK)
	has(t, "Clean", d, without(files, want...), nil)
}

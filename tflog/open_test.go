package tflog

import (
	"fmt"
	"maps"
	"slices"
	"strconv"
	"testing"

	"annalist/api"
	"annalist/disk"
)

// P12.1

func TestOpenOfNone(t *testing.T) {
	refuses(t, "nil", nil, api.ErrNil)
	refuses(t, "zero", &disk.Disk{}, api.ErrNil)
}

func TestOpenOfADiskThatIsDown(t *testing.T) {
	for _, m := range []map[string]string{{}, {"new": "x"}, {"c000000": head(0)}, {"c000003": "x"}} {
		d := laidOut(t, 10000, m)
		is(t, "Crash", d.Crash(nil), api.OK)
		refuses(t, "down", d, api.ErrDown)
		is(t, "Start", d.Start(), api.OK)
		has(t, "down", d, m)
	}
}

func TestOpenOfANewDisk(t *testing.T) {
	for _, capacity := range []int{0, 1, 6000, 60000, 1 << 20} {
		d := made(t, capacity)
		l := opened(t, d)
		ends(t, "a new disk", l, 0, 0)
		goesNot(t, l, 0, 0)
		has(t, "a new disk", d, nil)
	}
}

// others are files that are none of the log's, some of them with names that are nearly chunks'.
func others() map[string]string {
	return map[string]string{"map": "abc", "t000000": head(0), "t000005": "", "b000001": head(1) + laid("x"), "c00000": "a", "C000000": "b", "c0000000": "c", "c00000a": "d", "c-00001": "e", "c": "f", "a": "", "\xff": "g", "ne": "h", "newer": "i", "c 00001": "j"}
}

func TestOpenLeavesOtherFiles(t *testing.T) {
	for _, chunks := range []map[string]string{{}, {"c000000": head(0) + all("a", "b")}, {"c000000": head(0) + all("a", "b"), "c000001": head(1)}} {
		for _, left := range []string{"", "x", head(0) + laid("a")} {
			m := others()
			maps.Copy(m, chunks)
			d := laidOut(t, 60000, m)
			opened(t, d)
			has(t, "without new", d, m)
			lay(t, d, "new", left, "y")
			opened(t, d)
			has(t, "with new", d, m)
		}
	}
}

func TestOpenOfOtherNumbers(t *testing.T) {
	for _, l := range [][]int{{1}, {2}, {0, 2}, {1, 2}, {0, 1, 3}, {0, 1, 2, 4, 5}, {199}, {200}, {0, 200}, {999999}, {0, 1, 999999}} {
		m := map[string]string{"new": "x", "map": "y"}
		for _, n := range l {
			m[named(n)] = head(n) + laid("ab")
		}
		d := laidOut(t, 60000, m)
		ahead := d.Reads()
		refuses(t, fmt.Sprint(l), d, api.ErrBroke)
		if d.Reads() != ahead {
			t.Errorf("%v: chunks are read", l)
		}
		delete(m, "new")
		has(t, fmt.Sprint(l), d, m)
	}
}

func TestOpenOfTooManyChunks(t *testing.T) {
	m := map[string]string{}
	for n := range 200 {
		m[named(n)] = head(n) + laid(strconv.Itoa(n))
	}
	d := laidOut(t, 60000, m)
	l := opened(t, d)
	ends(t, "200 chunks", l, 199*4096+27, 199*4096+27)
	reads(t, l, 199*4096+12, "199", 2)
	has(t, "200 chunks", d, m)
	for _, last := range []string{"", head(200), head(200) + laid("200")} {
		lay(t, d, named(200), last, "")
		ahead := d.Reads()
		refuses(t, "201 chunks", d, api.ErrBroke)
		if d.Reads() != ahead {
			t.Error("201 chunks: they are read")
		}
		is(t, "Delete", d.Delete(named(200)), api.OK)
	}
}

// three are the files of a log of three chunks, of which the last one has a part of a record behind whole ones.
func three() map[string]string {
	return map[string]string{"c000000": head(0) + all("a", x(2000)), "c000001": head(1) + all("b", ""), "c000002": head(2) + all("c", "d") + laid("e")[:12]}
}

// breaks asks Open for ErrBroke of three, one of which is another one, for so many reads, and that no file changes.
func breaks(t *testing.T, what string, n int, s string, asked int) {
	t.Helper()
	m := three()
	m[named(n)] = s
	d := laidOut(t, 60000, m)
	ahead := d.Reads()
	refuses(t, what, d, api.ErrBroke)
	if got := d.Reads() - ahead; got != asked {
		t.Errorf("%s: %d reads, not %d", what, got, asked)
	}
	has(t, what, d, m)
}

func TestOpenOfWhatIsNoChunk(t *testing.T) {
	for n := range 3 {
		s := three()[named(n)]
		for at := range 12 {
			b := []byte(s)
			b[at] ^= 1 << (at % 8)
			breaks(t, fmt.Sprintf("chunk %d, byte %d", n, at), n, string(b), n+1)
			breaks(t, fmt.Sprintf("chunk %d, byte %d, cut off", n, at), n, string(b[:at+1]), n+1)
		}
		for m := range 4 {
			if m != n {
				breaks(t, fmt.Sprintf("chunk %d in %d", m, n), n, head(m)+laid("a"), n+1)
			}
		}
		breaks(t, "no head", n, laid("a"), n+1)
		breaks(t, "noise", n, "x", n+1)
	}
}

func TestOpenOfAChunkAheadThatIsCutOff(t *testing.T) {
	for n := range 2 {
		s := three()[named(n)]
		for size := range len(s) {
			if size == 12 || size == len(head(n)+laid("a")) {
				continue
			}
			breaks(t, fmt.Sprintf("chunk %d, %d bytes", n, size), n, s[:size], n+1)
		}
		breaks(t, "a byte behind", n, s+"x", n+1)
		breaks(t, "another head", n, s+head(n), n+1)
		breaks(t, "a long record", n, head(n)+laid(x(2001)), n+1)
		breaks(t, "a spoilt record", n, head(n)+"\x00\x00\x00\x01zxxxx\x00\x00\x00\x01", n+1)
	}
}

// A chunk ahead of the last one may have no records, and may be cut off behind one of them.
func TestOpenOfAChunkAheadThatIsShort(t *testing.T) {
	for n := range 2 {
		for _, s := range []string{head(n), head(n) + laid("a")} {
			m := three()
			m[named(n)] = s
			d := laidOut(t, 60000, m)
			l := opened(t, d)
			goes(t, l, 8192, "c", 8204, 8217, 1)
			m["c000002"] = head(2) + all("c", "d")
			has(t, "a short chunk", d, m)
		}
	}
}

// onDisk is a way to build a disk with files, sure, and one file more.
func onDisk(t *testing.T, m map[string]string, name, sure, rest string) func() *disk.Disk {
	return func() *disk.Disk {
		d := laidOut(t, 60000, m)
		lay(t, d, name, sure, rest)
		return d
	}
}

func open(d *disk.Disk) { Open(d) }

// Of the last chunk each beginning of a head is deleted, by one change; the one ahead is left as it is, also if it is not sure.
func TestOpenDeletesALastChunkWithoutAHead(t *testing.T) {
	for size := range 12 {
		build := func() *disk.Disk {
			d := made(t, 60000)
			lay(t, d, "c000000", head(0)+laid("a"), laid("b"))
			lay(t, d, "c000001", head(1)[:size/2], head(1)[size/2:size])
			return d
		}
		d := build()
		l := opened(t, d)
		ends(t, "deleted", l, 38, 38)
		if l := d.Unsynced(); !slices.Equal(l, []int{13}) {
			t.Errorf("%d bytes: unsynced are %v", size, l)
		}
		has(t, "deleted", d, map[string]string{"c000000": head(0) + all("a", "b")})
		puts(t, l, "c", 38)
		if n := changes(t, build, open); n != 1 {
			t.Errorf("%d bytes: %d changes", size, n)
		}
		d = laidOut(t, 60000, map[string]string{"c000000": head(0)[:size]})
		l = opened(t, d)
		ends(t, "deleted", l, 0, 0)
		has(t, "deleted", d, nil)
		puts(t, l, "c", 12)
	}
}

// Behind a deleted chunk the one ahead is the last one, but it was read as one ahead: it has to be whole.
func TestOpenAsksTheChunkAheadOfADeletedOne(t *testing.T) {
	for _, s := range []string{"", head(0)[:11], head(0) + "x", head(0) + laid("a")[:12]} {
		m := map[string]string{"c000000": s, "c000001": head(1)[:3]}
		d := laidOut(t, 60000, m)
		refuses(t, "a deleted one", d, api.ErrBroke)
		has(t, "a deleted one", d, m)
	}
}

// A last chunk of whole records is synced, by one change.
func TestOpenSyncsTheLastChunk(t *testing.T) {
	m := map[string]string{"c000000": head(0) + laid("a")}
	for _, s := range []string{head(1), head(1) + laid("b"), head(1) + all("b", "", "c")} {
		build := onDisk(t, m, "c000001", s[:5], s[5:])
		d := build()
		l := opened(t, d)
		if n := d.Unsynced(); !slices.Equal(n, []int{0, 0}) {
			t.Errorf("unsynced are %v", n)
		}
		ends(t, "synced", l, 4096+len(s), 4096+len(s))
		has(t, "synced", d, map[string]string{"c000000": m["c000000"], "c000001": s})
		if n := changes(t, build, open); n != 1 {
			t.Errorf("%d changes", n)
		}
	}
}

// Only the last chunk is synced.
func TestOpenSyncsNoOtherChunk(t *testing.T) {
	d := made(t, 60000)
	lay(t, d, "c000000", head(0), laid("a"))
	lay(t, d, "c000001", head(1), laid("b"))
	opened(t, d)
	if n := d.Unsynced(); !slices.Equal(n, []int{13, 0}) {
		t.Errorf("unsynced are %v", n)
	}
}

// A last chunk whose records end ahead of its end is written anew, by four changes, one by one.
func TestOpenWritesTheLastChunkAnew(t *testing.T) {
	m := map[string]string{"c000000": head(0) + laid("a")}
	for _, c := range []struct{ whole, rest string }{
		{head(1), "x"}, {head(1), head(1)}, {head(1), laid("b")[:12]}, {head(1), laid(x(2001)) + laid("b")}, {head(1), "x" + laid("b")},
		{head(1) + laid("b"), "\x00"}, {head(1) + all("b", "", "c"), laid("d")[:1]}, {head(1) + all("b", x(2000)), laid(x(2000))[:2011]},
	} {
		build := onDisk(t, m, "c000001", c.whole[:12], c.whole[12:]+c.rest)
		d := build()
		l := opened(t, d)
		ends(t, "anew", l, 4096+len(c.whole), 4096+len(c.whole))
		want := map[string]string{"c000000": m["c000000"], "c000001": c.whole}
		if n := d.Unsynced(); !slices.Equal(n, []int{0, 0}) {
			t.Errorf("unsynced are %v", n)
		}
		has(t, "anew", d, want)
		if n := changes(t, build, open); n != 4 {
			t.Errorf("%d changes", n)
		}
		for n := range 5 {
			failsAnew(t, build(), n, c.whole, c.rest)
		}
	}
}

// failsAnew lets an Open, that writes the chunk 1 anew, fail behind n changes, with four bytes kept of each file.
func failsAnew(t *testing.T, d *disk.Disk, n int, whole, rest string) {
	t.Helper()
	want := map[string]string{"c000000": head(0) + laid("a"), "c000001": (whole + rest)[:min(len(whole+rest), 16)]}
	switch n {
	case 1, 2:
		want["new"] = whole[:4]
	case 3:
		want["new"] = whole
	case 4:
		want["c000001"] = whole
	}
	is(t, "Fail", d.Fail(n, []int{4, 4, 4}), api.OK)
	if n < 4 {
		refuses(t, "a failure", d, api.ErrDown)
		is(t, "Start", d.Start(), api.OK)
	} else {
		opened(t, d)
	}
	has(t, fmt.Sprintf("%d changes", n), d, want)
}

func TestOpenReadsEachChunkOnce(t *testing.T) {
	m := map[string]string{}
	for n := range 30 {
		d := laidOut(t, 60000, m)
		ahead := d.Reads()
		opened(t, d)
		if got := d.Reads() - ahead; got != n {
			t.Errorf("%d chunks: %d reads", n, got)
		}
		m[named(n)] = head(n) + all("a", x(n), "b")
	}
}

// What the disk tells of the steps is told: there may be no room for the file that is written, or for its bytes.
func TestOpenTellsWhatTheDiskTells(t *testing.T) {
	old := head(0) + laid(x(100)) + "x"
	d := laidOut(t, 200, map[string]string{"c000000": old, "map": x(10)})
	refuses(t, "no room", d, api.ErrFull)
	has(t, "no room", d, map[string]string{"c000000": old, "map": x(10), "new": ""})
	d = laidOut(t, 248, map[string]string{"c000000": old})
	refuses(t, "no room", d, api.ErrFull)
	d = laidOut(t, 249, map[string]string{"c000000": old})
	opened(t, d)
	has(t, "just room", d, map[string]string{"c000000": old[:124]})
	m := map[string]string{"c000000": old}
	for n := range 399 {
		m[strconv.Itoa(n)] = ""
	}
	d = laidOut(t, 9000, m)
	refuses(t, "400 files", d, api.ErrFull)
	has(t, "400 files", d, m)
}

// new is deleted ahead of all else: also where no more can be done.
func TestOpenDeletesNewFirst(t *testing.T) {
	build := onDisk(t, map[string]string{"c000000": head(0) + "x"}, "new", "a", "b")
	if n := changes(t, build, open); n != 5 {
		t.Errorf("%d changes", n)
	}
	d := build()
	is(t, "Fail", d.Fail(0, nil), api.OK)
	refuses(t, "a failure", d, api.ErrDown)
	is(t, "Start", d.Start(), api.OK)
	has(t, "a failure", d, map[string]string{"c000000": head(0) + "x", "new": "a"})
	d = build()
	is(t, "Fail", d.Fail(1, nil), api.OK)
	refuses(t, "a failure", d, api.ErrDown)
	is(t, "Start", d.Start(), api.OK)
	has(t, "a failure", d, map[string]string{"c000000": head(0) + "x"})
	opened(t, d)
}

package tflog

import (
	"fmt"
	"maps"
	"slices"
	"strconv"
	"strings"
	"testing"

	"annalist/api"
	"annalist/disk"
)

// P12.2

func TestAppendLaysHeadsAndRecords(t *testing.T) {
	l, d, places := some(t)
	p := somePayloads()
	has(t, "some", d, map[string]string{"c000000": head(0) + all(p[0], p[1]), "c000001": head(1) + all(p[2], p[3]), "c000002": head(2) + all(p[4], p[5], p[6])})
	ends(t, "some", l, 9242, 7625)
	for i, pos := range places {
		reads(t, l, pos, p[i], 2)
	}
}

func TestAppendOfAnyBytes(t *testing.T) {
	d := made(t, 60000)
	l := opened(t, d)
	want, pos := head(0), 12
	for _, p := range []string{"", "\x00", "\xff\xfe", "ä€", laid("ab"), head(0), head(1) + laid("a"), "\x00\x00\x00\x00", "chnk", x(255), x(256), ""} {
		puts(t, l, p, pos)
		want += laid(p)
		pos = len(want)
		has(t, "any bytes", d, map[string]string{"c000000": want})
		ends(t, "any bytes", l, pos, 0)
	}
}

func TestAppendOfTooLong(t *testing.T) {
	d := made(t, 60000)
	l := opened(t, d)
	for _, n := range []int{2001, 2002, 4072, 4073, 65536, 1 << 21} {
		putsNot(t, l, x(n), api.ErrLong)
	}
	has(t, "too long", d, nil)
	puts(t, l, x(2000), 12)
	putsNot(t, l, x(2001), api.ErrLong)
	ends(t, "too long", l, 2024, 0)
	// It is told ahead of what else could be: there is no room.
	putsNot(t, opened(t, made(t, 0)), x(2001), api.ErrLong)
	putsNot(t, opened(t, made(t, 0)), x(2000), api.ErrFull)
}

// A record goes into the last chunk up to that one's last byte, and no byte farther.
func TestAppendFillsAChunk(t *testing.T) {
	for n := range 60 {
		d := made(t, 60000)
		l := opened(t, d)
		puts(t, l, x(2000), 12)
		puts(t, l, x(2000), 2024)
		s := head(0) + all(x(2000), x(2000))
		if n <= 48 {
			puts(t, l, x(n), 4036)
			s += laid(x(n))
			ends(t, "the last chunk", l, 4048+n, 0)
			has(t, "the last chunk", d, map[string]string{"c000000": s})
			continue
		}
		puts(t, l, x(n), 4108)
		ends(t, "a new chunk", l, 4120+n, 4036)
		has(t, "a new chunk", d, map[string]string{"c000000": s, "c000001": head(1) + laid(x(n))})
	}
}

// What stands behind a full chunk's last byte is the next one's front.
func TestAppendBehindAFullChunk(t *testing.T) {
	d := made(t, 60000)
	l := opened(t, d)
	puts(t, l, x(2000), 12)
	puts(t, l, x(2000), 2024)
	puts(t, l, x(48), 4036)
	ends(t, "a full chunk", l, 4096, 0)
	puts(t, l, "", 4108)
	ends(t, "a full chunk", l, 4120, 4096)
	goes(t, l, 4036, x(48), 4036, 4096, 1)
	goes(t, l, 4096, "", 4108, 4120, 1)
	l = opened(t, d)
	ends(t, "a full chunk", l, 4120, 4120)
}

// None but the last chunk is gone back to, also where there is room.
func TestAppendGoesToTheLastChunkAlone(t *testing.T) {
	l, d, _ := some(t)
	puts(t, l, "h", 9242)
	l = opened(t, d)
	puts(t, l, "", 9255)
	puts(t, l, x(2000), 9267)
	puts(t, l, x(2000), 12300)
}

// A log that was opened goes on where it ended, also behind a head alone.
func TestAppendBehindWhatWasOpened(t *testing.T) {
	for _, c := range []struct {
		last string
		at   int
	}{{"", 25}, {head(1)[:11], 25}, {head(1), 4108}, {head(1) + "x", 4108}, {head(1) + laid("b"), 4121}, {head(1) + laid("b") + laid("c")[:5], 4121}, {head(1) + all(x(2000), x(2000)), 8132}} {
		d := laidOut(t, 60000, map[string]string{"c000000": head(0) + laid("a"), "c000001": c.last})
		l := opened(t, d)
		puts(t, l, "z", c.at)
		reads(t, l, c.at, "z", 2)
		ends(t, "opened", l, c.at+13, c.at)
	}
	d := laidOut(t, 60000, map[string]string{"c000000": head(0) + all(x(2000), x(2000))})
	l := opened(t, d)
	puts(t, l, x(49), 4108)
}

// All but the reserve may be used, to its last byte.
func TestAppendLeavesTheReserve(t *testing.T) {
	for _, n := range []int{0, 1, 2, 100, 1999, 2000} {
		d := made(t, 6000+24+n)
		puts(t, opened(t, d), x(n), 12)
		if d.Free() != 6000 {
			t.Errorf("%d bytes are free", d.Free())
		}
		d = made(t, 6000+23+n)
		l := opened(t, d)
		putsNot(t, l, x(n), api.ErrFull)
		has(t, "no room", d, nil)
		ends(t, "no room", l, 0, 0)

		d = made(t, 6000+12+13+12+n)
		l = opened(t, d)
		puts(t, l, "a", 12)
		puts(t, l, x(n), 25)
		putsNot(t, l, "", api.ErrFull)
		d = made(t, 6000+12+13+11+n)
		l = opened(t, d)
		puts(t, l, "a", 12)
		putsNot(t, l, x(n), api.ErrFull)
		has(t, "no room", d, map[string]string{"c000000": head(0) + laid("a")})
		ends(t, "no room", l, 25, 0)
	}
}

// Where a new chunk has no room nothing is done, also nothing synced; what fits into the last one still finds room.
func TestAppendWithoutRoomForANewChunk(t *testing.T) {
	build := func() (*Log, *disk.Disk) {
		d := made(t, 6000+4036+23+100)
		l := opened(t, d)
		puts(t, l, x(2000), 12)
		puts(t, l, x(2000), 2024)
		return l, d
	}
	l, d := build()
	is(t, "Fail", d.Fail(0, nil), api.OK)
	putsNot(t, l, x(100), api.ErrFull)
	if !d.Up() || !slices.Equal(d.Unsynced(), []int{4036}) {
		t.Errorf("up is %v, unsynced are %v", d.Up(), d.Unsynced())
	}
	l, _ = build()
	putsNot(t, l, x(100), api.ErrFull)
	ends(t, "no room", l, 4036, 0)
	puts(t, l, x(48), 4036)
	l, _ = build()
	puts(t, l, x(99), 4108)
}

// What other files have counts, too.
func TestAppendBesideOtherFiles(t *testing.T) {
	d := laidOut(t, 7000, map[string]string{"map": x(976)})
	l := opened(t, d)
	putsNot(t, l, "a", api.ErrFull)
	is(t, "Cut", d.Cut("map", 975), api.OK)
	puts(t, l, "a", 12)
	putsNot(t, l, "", api.ErrFull)
	is(t, "Delete", d.Delete("map"), api.OK)
	puts(t, l, "", 25)
}

func TestAppendFillsAllChunks(t *testing.T) {
	d := made(t, 1<<20)
	l := opened(t, d)
	for n := range 200 {
		puts(t, l, x(2000), n*4096+12)
		puts(t, l, x(2000), n*4096+2024)
	}
	ends(t, "200 chunks", l, 199*4096+4036, 198*4096+4036)
	is(t, "Fail", d.Fail(0, nil), api.OK)
	putsNot(t, l, x(2000), api.ErrFull)
	putsNot(t, l, x(49), api.ErrFull)
	ends(t, "200 chunks", l, 199*4096+4036, 198*4096+4036)
	if !d.Up() || slices.Max(d.Unsynced()) != 4036 {
		t.Errorf("up is %v", d.Up())
	}
	is(t, "Crash", d.Crash([]int{199: 4036}), api.OK)
	is(t, "Start", d.Start(), api.OK)
	l = opened(t, d)
	ends(t, "200 chunks", l, 199*4096+4036, 199*4096+4036)
	putsNot(t, l, x(49), api.ErrFull)
	puts(t, l, x(30), 199*4096+4036)
	puts(t, l, "abcdef", 199*4096+4078)
	ends(t, "200 full chunks", l, 200*4096, 199*4096+4036)
	putsNot(t, l, "", api.ErrFull)
	goes(t, l, 199*4096+4037, "abcdef", 199*4096+4078, 200*4096, 1)
	goesNot(t, l, 200*4096, 0)
}

// appends is a way to call Append of the log of a disk, behind an Open, that makes changes of its own: so many.
func appends(t *testing.T, build func() (*Log, *disk.Disk), payload string) int {
	t.Helper()
	var l *Log
	return changes(t, func() (d *disk.Disk) {
		l, d = build()
		return d
	}, func(*disk.Disk) { l.Append(payload) })
}

func TestAppendMakesNoOtherChanges(t *testing.T) {
	empty := func() (*Log, *disk.Disk) {
		d := made(t, 60000)
		return opened(t, d), d
	}
	three := func() (*Log, *disk.Disk) {
		l, d, _ := some(t)
		return l, d
	}
	for _, c := range []struct {
		what    string
		build   func() (*Log, *disk.Disk)
		payload string
		want    int
	}{{"the first chunk", empty, "a", 2}, {"the last chunk", three, "a", 1}, {"a new chunk", three, strings.Repeat("g", 2000), 1}, {"too long", three, x(2001), 0}, {"too long", empty, x(2001), 0}} {
		if n := appends(t, c.build, c.payload); n != c.want {
			t.Errorf("%s: %d changes, not %d", c.what, n, c.want)
		}
	}
	full := func() (*Log, *disk.Disk) {
		l, d, _ := some(t)
		puts(t, l, x(2000), 9242)
		return l, d
	}
	if n := appends(t, full, x(2000)); n != 3 {
		t.Errorf("a new chunk: %d changes", n)
	}
}

// The steps of a new chunk, each of which fails: the one ahead is synced first, then the new one is created, then it has all its bytes at once.
func TestAppendOfANewChunkFails(t *testing.T) {
	old, p := head(0)+all(x(2000), x(2000)), x(100)
	for n := range 3 {
		for _, k := range []int{0, 1, 11, 12, 13, 30, 123, 124, 5000} {
			d := made(t, 60000)
			l := opened(t, d)
			puts(t, l, x(2000), 12)
			puts(t, l, x(2000), 2024)
			is(t, "Fail", d.Fail(n, []int{k, k}), api.OK)
			putsNot(t, l, p, api.ErrDown)
			want := map[string]string{"c000000": old}
			sure := 4036
			switch n {
			case 0:
				want["c000000"] = old[:min(k, len(old))]
				sure = 0
			case 2:
				s := head(1) + laid(p)
				want["c000001"] = s[:min(k, len(s))]
			}
			ends(t, "a failure", l, 4036, sure)
			is(t, "Start", d.Start(), api.OK)
			has(t, fmt.Sprintf("%d changes, %d kept", n, k), d, want)
			ends(t, "a failure", l, 4036, sure)
		}
	}
}

// Of a first chunk there is nothing to sync.
func TestAppendOfTheFirstChunkFails(t *testing.T) {
	s := head(0) + laid("ab")
	for n := range 2 {
		for k := range len(s) + 2 {
			d := made(t, 60000)
			l := opened(t, d)
			is(t, "Fail", d.Fail(n, []int{k}), api.OK)
			putsNot(t, l, "ab", api.ErrDown)
			ends(t, "a failure", l, 0, 0)
			is(t, "Start", d.Start(), api.OK)
			want := map[string]string{}
			if n == 1 {
				want["c000000"] = s[:min(k, len(s))]
			}
			has(t, fmt.Sprintf("%d changes, %d kept", n, k), d, want)
		}
	}
}

func TestAppendToTheLastChunkFails(t *testing.T) {
	s := laid("bc")
	for k := range len(s) + 2 {
		d := made(t, 60000)
		l := opened(t, d)
		puts(t, l, "a", 12)
		is(t, "Flush", l.Flush(), api.OK)
		is(t, "Fail", d.Fail(0, []int{k}), api.OK)
		putsNot(t, l, "bc", api.ErrDown)
		ends(t, "a failure", l, 25, 25)
		is(t, "Start", d.Start(), api.OK)
		has(t, "a failure", d, map[string]string{"c000000": head(0) + laid("a") + s[:min(k, len(s))]})
	}
}

// full is a log that has no room in its last chunk, on a disk that has 400 files.
func full(t *testing.T) (*Log, *disk.Disk) {
	t.Helper()
	d := made(t, 60000)
	l := opened(t, d)
	puts(t, l, x(2000), 12)
	puts(t, l, x(2000), 2024)
	for n := range 399 {
		lay(t, d, strconv.Itoa(n), "", "")
	}
	return l, d
}

// Where the disk has no room for a file, what it has was synced all the same, and the log goes on.
func TestAppendWithTooManyFiles(t *testing.T) {
	l, d := full(t)
	putsNot(t, l, x(2000), api.ErrFull)
	ends(t, "400 files", l, 4036, 4036)
	if n := d.Unsynced(); slices.Max(n) != 0 || len(n) != 400 {
		t.Errorf("unsynced are %v", n)
	}
	puts(t, l, x(30), 4036)
	ends(t, "400 files", l, 4078, 4036)
	putsNot(t, l, x(2000), api.ErrFull)
	ends(t, "400 files", l, 4078, 4078)
	is(t, "Delete", d.Delete("7"), api.OK)
	puts(t, l, x(2000), 4108)
	goes(t, l, 4037, x(2000), 4108, 6120, 2)
	ends(t, "399 files", l, 6120, 4078)
}

// What the disk tells else is told, too.
func TestAppendTellsWhatTheDiskTells(t *testing.T) {
	l, d, _ := some(t)
	lay(t, d, "c000003", "x", "")
	puts(t, l, x(2000), 9242)
	putsNot(t, l, x(2000), api.ErrHave)
	ends(t, "a file that is there", l, 11254, 11254)
	is(t, "Delete", d.Delete("c000003"), api.OK)
	puts(t, l, x(2000), 12300)
	is(t, "Delete", d.Delete("c000003"), api.OK)
	putsNot(t, l, "a", api.ErrNone)
	is(t, "Flush", l.Flush(), api.ErrNone)
	ends(t, "a file that is gone", l, 14312, 11254)
	if s, e := l.Read(12300); s != "" || e != api.ErrNone {
		t.Error(short(s), e)
	}
	if s, at, next, e := l.Next(12300); s != "" || at != 0 || next != 0 || e != api.ErrNone {
		t.Error(short(s), at, next, e)
	}
}

// How many bytes the last chunk has is what its file has, also if it was cut off while the log was open.
func TestAppendBehindWhatIsThere(t *testing.T) {
	l, d, _ := some(t)
	is(t, "Cut", d.Cut("c000002", 1024), api.OK)
	puts(t, l, "h", 9216)
	reads(t, l, 9216, "h", 2)
	goes(t, l, 8205, "h", 9216, 9229, 1)
	ends(t, "cut off", l, 9229, 7625)
}

// Reading is not what appending asks for.
func TestAppendReadsNothing(t *testing.T) {
	l, d, _ := some(t)
	ahead := d.Reads()
	puts(t, l, x(2000), 9242)
	puts(t, l, x(2000), 12300)
	is(t, "Flush", l.Flush(), api.OK)
	l.End()
	l.Sure()
	if d.Reads() != ahead {
		t.Errorf("%d reads", d.Reads()-ahead)
	}
}

// P12.3

func TestFlushOfNothing(t *testing.T) {
	d := made(t, 60000)
	l := opened(t, d)
	is(t, "Fail", d.Fail(0, nil), api.OK)
	is(t, "Flush", l.Flush(), api.OK)
	is(t, "Flush", l.Flush(), api.OK)
	ends(t, "nothing", l, 0, 0)
	has(t, "nothing", d, nil)
}

func TestFlush(t *testing.T) {
	l, d, _ := some(t)
	ends(t, "some", l, 9242, 7625)
	if n := d.Unsynced(); !slices.Equal(n, []int{0, 0, 1050}) {
		t.Errorf("unsynced are %v", n)
	}
	is(t, "Flush", l.Flush(), api.OK)
	if n := d.Unsynced(); !slices.Equal(n, []int{0, 0, 0}) {
		t.Errorf("unsynced are %v", n)
	}
	ends(t, "Flush", l, 9242, 9242)
	puts(t, l, "h", 9242)
	ends(t, "one more", l, 9255, 9242)
	is(t, "Crash", d.Crash([]int{9, 9, 12}), api.OK)
	is(t, "Start", d.Start(), api.OK)
	ends(t, "opened", opened(t, d), 9242, 9242)
}

// Each Flush of a log that has a chunk is one change, also where all is sure.
func TestFlushSyncsTheLastChunkAlone(t *testing.T) {
	var l *Log
	build := func() (d *disk.Disk) {
		l, d, _ = some(t)
		lay(t, d, "map", "a", "bc")
		return d
	}
	flush := func(*disk.Disk) { l.Flush() }
	if n := changes(t, build, flush); n != 1 {
		t.Errorf("%d changes", n)
	}
	d := build()
	is(t, "Flush", l.Flush(), api.OK)
	if n := d.Unsynced(); !slices.Equal(n, []int{0, 0, 0, 2}) {
		t.Errorf("unsynced are %v", n)
	}
	is(t, "Fail", d.Fail(0, nil), api.OK)
	is(t, "Flush", l.Flush(), api.ErrDown)
}

func TestFlushFails(t *testing.T) {
	l, d, _ := some(t)
	is(t, "Fail", d.Fail(0, []int{0, 0, 100}), api.OK)
	is(t, "Flush", l.Flush(), api.ErrDown)
	ends(t, "a failure", l, 9242, 7625)
	is(t, "Start", d.Start(), api.OK)
	is(t, "Flush", l.Flush(), api.ErrDown)
	ends(t, "a failure", opened(t, d), 8204, 8204)
}

// P12.6

func TestEndAndSure(t *testing.T) {
	d := made(t, 60000)
	l := opened(t, d)
	ends(t, "new", l, 0, 0)
	puts(t, l, "", 12)
	ends(t, "one", l, 24, 0)
	is(t, "Flush", l.Flush(), api.OK)
	ends(t, "flushed", l, 24, 24)
	puts(t, l, x(2000), 24)
	puts(t, l, x(2000), 2036)
	ends(t, "three", l, 4048, 24)
	puts(t, l, x(2000), 4108)
	ends(t, "a new chunk", l, 6120, 4048)
	ends(t, "opened", opened(t, d), 6120, 6120)
	puts(t, l, x(2000), 6120)
	ends(t, "one more", l, 8132, 4048)
	is(t, "Flush", l.Flush(), api.OK)
	ends(t, "flushed", l, 8132, 8132)
}

func TestEndOfWhatWasOpened(t *testing.T) {
	one := map[string]string{"c000000": head(0) + laid("ab")}
	two := map[string]string{"c000001": head(1)}
	maps.Copy(two, one)
	three := map[string]string{"c000002": head(2) + laid("a") + "x"}
	maps.Copy(three, two)
	four := map[string]string{"c000002": head(2)[:11]}
	maps.Copy(four, two)
	for i, c := range []struct {
		files map[string]string
		end   int
	}{{nil, 0}, {map[string]string{"c000000": ""}, 0}, {map[string]string{"c000000": head(0)[:11]}, 0}, {map[string]string{"c000000": head(0)}, 12}, {one, 26}, {two, 4108}, {three, 8217}, {four, 4108}} {
		ends(t, fmt.Sprint("case ", i), opened(t, laidOut(t, 60000, c.files)), c.end, c.end)
	}
}

// No reading changes what they tell.
func TestReadingChangesNothing(t *testing.T) {
	l, d, _ := some(t)
	want := files(t, d)
	is(t, "Fail", d.Fail(0, nil), api.OK)
	for pos := -5; pos < 9300; pos += 5 {
		l.Read(pos)
		l.Next(pos)
	}
	ends(t, "reading", l, 9242, 7625)
	has(t, "reading", d, want)
	if !d.Up() {
		t.Error("reading is a change")
	}
}

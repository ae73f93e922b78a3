package tflog

import (
	"encoding/binary"
	"slices"
	"strconv"
	"testing"

	"annalist/api"
	"annalist/disk"
)

// P12.4

func TestRead(t *testing.T) {
	l, d, places := some(t)
	for range 2 {
		for i, p := range somePayloads() {
			reads(t, l, places[i], p, 2)
		}
		l = opened(t, d)
	}
}

// asked is how many reads the chapter asks for, of a place of a chunk.
func asked(s string, at int) int {
	if at < 12 || at+12 > len(s) {
		return 0
	}
	n := int(binary.BigEndian.Uint32([]byte(s[at:])))
	if n > 2000 || at+12+n > len(s) {
		return 1
	}
	return 2
}

// Where no record stands nothing is told, at any place; where four bytes tell that, no more are read.
func TestReadOfOtherPlaces(t *testing.T) {
	l, d, places := some(t)
	m := files(t, d)
	for pos := range 3 * 4096 {
		if !slices.Contains(places, pos) {
			readsNot(t, l, pos, asked(m[named(pos/4096)], pos%4096))
		}
	}
	for _, pos := range numbers() {
		readsNot(t, l, pos, 0)
	}
	for n := 3; n < 300; n++ {
		readsNot(t, l, n*4096+12, 0)
	}
}

func TestReadOfALogWithoutChunks(t *testing.T) {
	l := opened(t, made(t, 60000))
	for _, pos := range append(numbers(), 0, 1, 11, 12, 13, 26, 4096, 4108) {
		readsNot(t, l, pos, 0)
	}
}

// A record stands also within another one's payload: it is asked where it stands, not for what is ahead of it.
func TestReadWithinPayloads(t *testing.T) {
	l := opened(t, made(t, 60000))
	puts(t, l, "x"+laid("ab")+laid(""), 12)
	reads(t, l, 17, "ab", 2)
	reads(t, l, 31, "", 2)
	readsNot(t, l, 18, 1)
	goesNot(t, l, 13, 1)
}

// laidLog is a log of one chunk, which was laid with bytes behind its head while the log was open.
func laidLog(t *testing.T, s string) (*Log, *disk.Disk) {
	t.Helper()
	d := laidOut(t, 60000, map[string]string{"c000000": head(0)})
	l := opened(t, d)
	is(t, "Append", d.Append("c000000", s), api.OK)
	return l, d
}

// What four bytes say is held against the greatest payload, and against what there is, ahead of a second read.
func TestReadOfLengthsThatLie(t *testing.T) {
	for _, c := range []struct {
		length string
		behind int // bytes behind the first four
		asked  int
	}{
		{"\x00\x00\x07\xd1", 2009, 1}, {"\x00\x00\x07\xd1", 3000, 1}, {"\x00\x00\x07\xd0", 2008, 2}, {"\x00\x00\x07\xd0", 3000, 2}, {"\x00\x00\x07\xd0", 2007, 1},
		{"\x00\x00\x00\x00", 8, 2}, {"\x00\x00\x00\x01", 8, 1}, {"\x00\x00\x00\x01", 9, 2}, {"\x00\x00\x00\x0d", 20, 1}, {"\x00\x00\x00\x0c", 20, 2},
		{"\xff\xff\xff\xff", 100, 1}, {"\x80\x00\x00\x00", 100, 1}, {"\x01\x00\x00\x01", 100, 1}, {"\x00\x01\x00\x01", 100, 1}, {"\x00\x00\x08\x00", 4000, 1}, {"\x00\x00\x00\x00", 7, 0}, {"\x00\x00\x00\x00", 0, 0},
	} {
		l, _ := laidLog(t, c.length+x(c.behind))
		readsNot(t, l, 12, c.asked)
	}
}

// A record with any byte another one does not stand there; but where another length's record does.
func TestReadOfSpoiltRecords(t *testing.T) {
	s := laid("abc")
	for at := range len(s) {
		for bit := range 8 {
			l, d := laidLog(t, s+laid("d"))
			reads(t, l, 12, "abc", 2)
			is(t, "Spoil", d.Spoil("c000000", 12+at, string([]byte{s[at] ^ 1<<bit})), api.OK)
			if p, e := l.Read(12); p != "" || e != api.ErrNone {
				t.Errorf("byte %d, bit %d: %s, %v", at, bit, short(p), e)
			}
			reads(t, l, 27, "d", 2)
		}
	}
	l, d := laidLog(t, laid(x(2001)))
	readsNot(t, l, 12, 1)
	is(t, "Spoil", d.Spoil("c000000", 12, laid("e")), api.OK)
	reads(t, l, 12, "e", 2)
}

// What is cut off, or gone, while the log is open is not there: that is no error of the disk's.
func TestReadOfWhatIsCutOff(t *testing.T) {
	s := laid("abc")
	for size := range len(s) {
		l, d := laidLog(t, s)
		is(t, "Cut", d.Cut("c000000", 12+size), api.OK)
		asked := 0
		if size >= 12 {
			asked = 1
		}
		readsNot(t, l, 12, asked)
	}
	l, d := laidLog(t, s)
	is(t, "Delete", d.Delete("c000000"), api.OK)
	if p, e := l.Read(12); p != "" || e != api.ErrNone {
		t.Errorf("%s, %v", short(p), e)
	}
}

// The front of a chunk has no record, whatever stands there.
func TestReadOfAHead(t *testing.T) {
	l, d := laidLog(t, laid("abc"))
	is(t, "Spoil", d.Spoil("c000000", 0, laid("")), api.OK)
	for pos := range 12 {
		readsNot(t, l, pos, 0)
	}
	reads(t, l, 12, "abc", 2)
}

// A file with a chunk's name that the log neither found nor made is none of its chunks.
func TestReadOfAChunkThatIsNotTheLogs(t *testing.T) {
	l, d, _ := some(t)
	none := opened(t, made(t, 60000))
	lay(t, d, "c000003", head(3)+laid("a"), "")
	lay(t, none.disk, "c000000", head(0)+laid("a"), "")
	readsNot(t, l, 3*4096+12, 0)
	goesNot(t, l, 9231, 1)
	goesNot(t, l, 3*4096, 0)
	readsNot(t, none, 12, 0)
	goesNot(t, none, 0, 0)
}

// P12.5

func TestNext(t *testing.T) {
	l, d, places := some(t)
	p := somePayloads()
	ends := []int{2024, 4036, 6113, 7625, 9216, 9230, 9242}
	for range 2 {
		i := 0
		for pos := range 3 * 4096 {
			for i < len(places) && places[i] < pos {
				i++
			}
			if i == len(places) {
				goesNot(t, l, pos, 1)
				continue
			}
			goes(t, l, pos, p[i], places[i], ends[i], places[i]/4096-pos/4096+1)
		}
		l = opened(t, d)
	}
}

func TestNextOfOtherPlaces(t *testing.T) {
	l, _, _ := some(t)
	none := opened(t, made(t, 60000))
	for _, pos := range numbers() {
		goesNot(t, none, pos, 0)
		if pos >= 0 {
			goesNot(t, l, pos, 0)
			continue
		}
		goes(t, l, pos, somePayloads()[0], 12, 2024, 1)
	}
	goesNot(t, none, 0, 0)
	goesNot(t, none, 12, 0)
	goesNot(t, l, 3*4096, 0)
	goesNot(t, l, 3*4096-1, 1)
}

// Chunks without records are read, and gone past.
func TestNextGoesPastChunksWithoutRecords(t *testing.T) {
	m := map[string]string{}
	for n := range 7 {
		m[named(n)] = head(n)
		if n%3 == 2 {
			m[named(n)] += all(strconv.Itoa(n), "")
		}
	}
	l := opened(t, laidOut(t, 60000, m))
	goes(t, l, -1, "2", 8204, 8217, 3)
	goes(t, l, 0, "2", 8204, 8217, 3)
	goes(t, l, 4096, "2", 8204, 8217, 2)
	goes(t, l, 8192, "2", 8204, 8217, 1)
	goes(t, l, 8205, "", 8217, 8229, 1)
	goes(t, l, 8218, "5", 5*4096+12, 5*4096+25, 4)
	goesNot(t, l, 5*4096+26, 2)
	goesNot(t, l, 6*4096, 1)
}

// All records are told, one behind the other, from the place behind each.
func TestNextFromPlaceToPlace(t *testing.T) {
	l, _, places := some(t)
	var got []int
	for pos := 0; ; {
		p, at, next, e := l.Next(pos)
		if e != api.OK {
			is(t, "Next", e, api.ErrNone)
			break
		}
		if p != somePayloads()[len(got)] || next != at+12+len(p) {
			t.Errorf("Next(%d): %s, %d, %d", pos, short(p), at, next)
		}
		got, pos = append(got, at), next
	}
	if !slices.Equal(got, places) {
		t.Errorf("%v, not %v", got, places)
	}
}

// The records are those that stand one behind the other, from a head on: not such as stand within payloads, or behind what is none.
func TestNextOfWhatStandsOneBehindTheOther(t *testing.T) {
	d := laidOut(t, 60000, map[string]string{"c000000": head(0) + all("a", laid("b")+laid("c"), "d"), "c000001": head(1) + all("e", "f", "g"), "c000002": head(2) + laid("h")})
	l := opened(t, d)
	goes(t, l, 26, "d", 63, 76, 1)
	goes(t, l, 29, "d", 63, 76, 1)
	reads(t, l, 29, "b", 2)
	is(t, "Spoil", d.Spoil("c000001", 29, "x"), api.OK)
	goes(t, l, 64, "e", 4108, 4121, 2)
	goes(t, l, 4109, "h", 8204, 8217, 2)
	reads(t, l, 4134, "g", 2)
	is(t, "Spoil", d.Spoil("c000001", 3, "x"), api.OK)
	goes(t, l, 64, "h", 8204, 8217, 3)
	is(t, "Cut", d.Cut("c000001", 7), api.OK)
	goes(t, l, 64, "h", 8204, 8217, 3)
	is(t, "Cut", d.Cut("c000002", 24), api.OK)
	goesNot(t, l, 64, 3)
}

// A chunk that was made is gone through as those that were there.
func TestNextOfWhatIsAppended(t *testing.T) {
	l := opened(t, made(t, 60000))
	goesNot(t, l, 0, 0)
	puts(t, l, "a", 12)
	goes(t, l, 0, "a", 12, 25, 1)
	goesNot(t, l, 13, 1)
	puts(t, l, "b", 25)
	goes(t, l, 13, "b", 25, 38, 1)
	puts(t, l, x(2000), 38)
	puts(t, l, x(2000), 2050)
	puts(t, l, "cd", 4062)
	puts(t, l, x(9), 4108)
	goes(t, l, 4063, x(9), 4108, 4129, 2)
}

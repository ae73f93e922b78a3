package tables

import (
	"encoding/binary"
	"hash/crc32"
	"math"
	"math/rand"
	"slices"
	"strconv"
	"strings"
	"testing"

	"annalist/api"
)

// most is how many entries a table has at most, by the chapter's words.
const most = 89478484

// at is an entry, shortly.
func at(hash uint64, version, pos int) api.Entry {
	return api.Entry{Hash: hash, Version: version, Pos: pos}
}

// show is entries as a failure tells them, no more than some of them.
func show(l ...api.Entry) string {
	var b strings.Builder
	for i, e := range l {
		if i == 8 {
			return b.String() + ".. (" + strconv.Itoa(len(l)) + ")"
		}
		b.WriteString("[" + strconv.FormatUint(e.Hash, 10) + " " + strconv.Itoa(e.Version) + " " + strconv.Itoa(e.Pos) + "]")
	}
	return b.String()
}

// edges is entries of numbers that stand at ends, in order; all of them may be.
func edges() []api.Entry {
	var l []api.Entry
	numbers := []int{0, 1, 255, 256, api.MaxVersion, 1<<32 + 1, math.MaxInt - 1, math.MaxInt}
	for _, h := range []uint64{0, 1, 255, 256, 1<<32 + 1, 1<<63 - 1, 1 << 63, math.MaxUint64 - 1, math.MaxUint64} {
		for _, v := range numbers {
			for _, p := range numbers {
				l = append(l, at(h, v, p))
			}
		}
	}
	return l
}

// drawn is at most n entries of few hashes, versions and places, in order, each once.
func drawn(r *rand.Rand, n int) []api.Entry {
	l := make([]api.Entry, n)
	for i := range l {
		l[i] = at(uint64(r.Intn(5))<<(r.Intn(2)*62), r.Intn(1+n/4), r.Intn(50))
	}
	slices.SortFunc(l, func(a, b api.Entry) int { return strings.Compare(number(a), number(b)) })
	return slices.Compact(l)
}

// number is an entry's bytes, by the library; of one that may be these stand to each other as the entries do.
func number(e api.Entry) string {
	b := binary.BigEndian.AppendUint64(nil, e.Hash)
	b = binary.BigEndian.AppendUint64(b, uint64(e.Version))
	return string(binary.BigEndian.AppendUint64(b, uint64(e.Pos)))
}

// sealed is a text with its sum behind it, by the library.
func sealed(s string) string {
	return string(binary.LittleEndian.AppendUint32([]byte(s), crc32.ChecksumIEEE([]byte(s))))
}

// unsealed is what stands ahead of a table's sum.
func unsealed(l []api.Entry) string {
	s := string(binary.BigEndian.AppendUint32([]byte("ptab"), uint32(len(l))))
	for _, e := range l {
		s += number(e)
	}
	return s
}

// laid is a table's bytes, as the chapter asks for, also of entries that no table has.
func laid(l []api.Entry) string { return sealed(unsealed(l)) }

// puts is what Put tells, where it is to be no error.
func puts(t *testing.T, l []api.Entry) string {
	t.Helper()
	s, e := Put(l)
	if e != api.OK {
		t.Fatalf("Put(%s): %v", show(l...), e)
	}
	return s
}

// gets holds what is got of some bytes against some entries.
func gets(t *testing.T, s string, l []api.Entry) {
	t.Helper()
	if got, e := Get(s); e != api.OK || !slices.Equal(got, l) {
		t.Fatalf("Get of the bytes of %s: %s, %v", show(l...), show(got...), e)
	}
}

// isNone holds what is got of some bytes against ErrTable.
func isNone(t *testing.T, what, s string) {
	t.Helper()
	if l, e := Get(s); e != api.ErrTable || len(l) != 0 {
		t.Fatalf("Get of %s, %d bytes, %.80q: %s, %v", what, len(s), s, show(l...), e)
	}
}

// refused holds what is put of some entries against ErrArg.
func refused(t *testing.T, l []api.Entry) {
	t.Helper()
	if s, e := Put(l); e != api.ErrArg || s != "" {
		t.Fatalf("Put(%s): %q, %v", show(l...), s, e)
	}
}

// P18.1

func TestPut(t *testing.T) {
	one := "\x00\x00\x00\x00\x00\x00\x00\x05" + "\x00\x00\x00\x00\x00\x00\x00\x00" + "\x00\x00\x00\x00\x00\x00\x00\x07"
	two := "\x01\x02\x03\x04\x05\x06\x07\x08" + "\x00\x00\x00\x00\x40\x00\x00\x00" + "\x11\x12\x13\x14\x15\x16\x17\x18"
	for _, c := range []struct {
		l    []api.Entry
		want string
	}{
		{nil, "ptab\x00\x00\x00\x00"},
		{[]api.Entry{}, "ptab\x00\x00\x00\x00"},
		{[]api.Entry{at(5, 0, 7)}, "ptab\x00\x00\x00\x01" + one},
		{[]api.Entry{at(5, 0, 7), at(0x0102030405060708, api.MaxVersion, 0x1112131415161718)}, "ptab\x00\x00\x00\x02" + one + two},
	} {
		if s := puts(t, c.l); s != sealed(c.want) {
			t.Errorf("Put(%s): %q, not %q", show(c.l...), s, sealed(c.want))
		}
	}
}

func TestPutOfNothingHasThisSum(t *testing.T) {
	want := "ptab\x00\x00\x00\x00" + "\x13\x42\x0f\xf1"
	if s := puts(t, nil); s != want {
		t.Errorf("Put of nothing: %x, not %x", s, want)
	}
}

func TestPutOfManyEntries(t *testing.T) {
	l := edges()
	for _, n := range []int{1, 2, 254, 255, 256, 257, len(l)} {
		if s := puts(t, l[:n]); s != laid(l[:n]) {
			t.Errorf("Put of %d entries: %d bytes, others", n, len(s))
		}
	}
	var many []api.Entry
	for i := range 66000 {
		many = append(many, at(uint64(i/300), i%300, i))
	}
	s := puts(t, many)
	if !strings.HasPrefix(s, "ptab\x00\x01\x01\xd0") || len(s) != 12+24*66000 {
		t.Errorf("Put of 66000 entries: %d bytes, %q..", len(s), s[:8])
	}
	gets(t, s, many)
}

func TestPutOfEntriesThatAreNotSorted(t *testing.T) {
	a, b, c := at(1, 1, 30), at(1, 1, 50), at(3, 0, 70)
	for _, l := range [][]api.Entry{
		{b, a}, {a, a}, {c, a}, {a, b, b}, {a, a, b}, {a, c, b}, {b, a, c}, {c, b, a}, {{}, {}},
		{at(1, 2, 0), at(1, 1, 9)}, {at(1<<63, 0, 0), at(1, 0, 0)}, {at(math.MaxUint64, 0, 0), at(0, 0, 0)},
	} {
		refused(t, l)
	}
	l := edges()[:60]
	for i := 1; i < len(l); i++ {
		swapped, doubled := slices.Clone(l), slices.Clone(l)
		swapped[i-1], swapped[i] = l[i], l[i-1]
		doubled[i] = l[i-1]
		refused(t, swapped)
		refused(t, doubled)
	}
}

// TestPutOfEntriesThatMayNotBe has lists that are sorted, all of them.
func TestPutOfEntriesThatMayNotBe(t *testing.T) {
	a, b := at(1, 1, 30), at(3, 0, 70)
	for _, l := range [][]api.Entry{
		{at(5, -1, 7)}, {at(5, 7, -1)}, {at(5, -1, -1)}, {at(0, math.MinInt, 0)}, {at(0, 0, math.MinInt)},
		{at(1, -1, 0), a, b}, {a, at(1, 1<<31, -1), b}, {a, at(2, -5, 0), b}, {a, b, at(4, -1, 0)}, {a, b, at(4, 0, -1)},
		{at(1, 0, -1), at(1, 0, 0)}, {at(1, -1, 5), at(1, 0, 0)},
	} {
		refused(t, l)
	}
}

func TestPutLeavesEntriesAsTheyWere(t *testing.T) {
	l := edges()
	puts(t, l)
	if !slices.Equal(l, edges()) {
		t.Error("Put changed entries")
	}
	wrong := []api.Entry{at(2, 0, 0), at(1, -1, 0)}
	refused(t, wrong)
	if wrong[0] != at(2, 0, 0) || wrong[1] != at(1, -1, 0) {
		t.Error("Put changed entries that it refused")
	}
}

func TestGet(t *testing.T) {
	l := edges()
	for _, n := range []int{0, 1, 2, 3, 17, 255, 256, 257, len(l)} {
		gets(t, laid(l[:n]), l[:n])
	}
	gets(t, "ptab\x00\x00\x00\x00\x13\x42\x0f\xf1", nil)
}

func TestGetOfWhatIsNoTable(t *testing.T) {
	isNone(t, "the letters", "ptab")
	isNone(t, "nothing", "")
	isNone(t, "a sum of nothing", sealed(""))
	isNone(t, "letters, sealed", sealed("ptab"))
	isNone(t, "letters and three bytes, sealed", sealed("ptab\x00\x00\x00"))
	isNone(t, "four bytes 0 alone, sealed", sealed("\x00\x00\x00\x00"))
	whole := laid(edges()[:3])
	isNone(t, "no sum", whole[:len(whole)-4])
	isNone(t, "a sum of another order", whole[:len(whole)-4]+string(binary.BigEndian.AppendUint32(nil, crc32.ChecksumIEEE([]byte(whole[:len(whole)-4])))))
	isNone(t, "one more byte", whole+"\x00")
	isNone(t, "one more table", whole+whole)
	isNone(t, "a byte ahead", "\x00"+whole)
	isNone(t, "a table, sealed", sealed(whole))
	for _, letters := range []string{"PTAB", "ptac", "qtab", "tabp", "ptaB", "\x00\x00\x00\x00", "blm\x00"} {
		isNone(t, "the letters "+letters, sealed(letters+unsealed(edges()[:3])[4:]))
		isNone(t, "the letters "+letters+" of no entries", sealed(letters+unsealed(nil)[4:]))
	}
}

// TestGetOfOtherCounts has as many entries as a table may have, and says that there are more, or fewer; the sum is right.
func TestGetOfOtherCounts(t *testing.T) {
	for n := range 5 {
		rest := unsealed(edges()[:n])[8:]
		for _, count := range []uint32{0, 1, 2, 3, 4, 5, 255, 256, 1 << 24, most - 1, most, most + 1, 1 << 31, math.MaxUint32 - 1, math.MaxUint32} {
			if int(count) == n {
				continue
			}
			s := string(binary.BigEndian.AppendUint32([]byte("ptab"), count)) + rest
			isNone(t, "count "+strconv.Itoa(int(count)), sealed(s))
		}
		little := string(binary.LittleEndian.AppendUint32([]byte("ptab"), uint32(n))) + rest
		if n > 0 {
			isNone(t, "a count of another order", sealed(little))
		}
	}
}

// TestGetOfOtherLengths has bytes between the entries and the sum, or too few; the sum is right.
func TestGetOfOtherLengths(t *testing.T) {
	for n := range 4 {
		s := unsealed(edges()[:n])
		for more := 1; more < 50; more++ {
			isNone(t, "bytes behind the entries", sealed(s+strings.Repeat("\x00", more)))
			isNone(t, "bytes behind the entries", sealed(s+strings.Repeat("\xff", more)))
		}
		for end := range len(s) {
			isNone(t, "too few bytes", sealed(s[:end]))
		}
	}
}

func TestGetOfEntriesThatAreNotSorted(t *testing.T) {
	a, b, c := at(1, 1, 30), at(1, 1, 50), at(3, 0, 70)
	for _, l := range [][]api.Entry{
		{b, a}, {a, a}, {c, a}, {a, b, b}, {a, a, b}, {a, c, b}, {b, a, c}, {c, b, a}, {{}, {}},
		{at(1, 2, 0), at(1, 1, 9)}, {at(1<<63, 0, 0), at(1, 0, 0)},
	} {
		isNone(t, "entries that are not sorted, "+show(l...), laid(l))
	}
}

func TestGetOfEntriesThatMayNotBe(t *testing.T) {
	a, b := at(1, 1, 30), at(3, 0, 70)
	for _, l := range [][]api.Entry{
		{at(5, -1, 7)}, {at(5, 7, -1)}, {at(5, math.MinInt, 7)}, {at(5, 7, math.MinInt)}, {at(5, -1, -1)},
		{at(1, -1, 0), a, b}, {a, at(1, 1<<31, -1), b}, {a, at(2, -5, 0), b}, {a, b, at(4, -1, 0)}, {a, b, at(4, 0, -1)},
	} {
		isNone(t, "entries that may not be, "+show(l...), laid(l))
	}
}

func TestGetOfNoise(t *testing.T) {
	r := rand.New(rand.NewSource(181))
	for range 20000 {
		b := make([]byte, r.Intn(100))
		r.Read(b)
		if r.Intn(2) == 0 {
			copy(b, "ptab\x00\x00\x00")
		}
		isNone(t, "noise", string(b))
	}
}

// TestGetTellsAListOfItsOwn writes into what was told, and asks again.
func TestGetTellsAListOfItsOwn(t *testing.T) {
	l := edges()[:20]
	s := puts(t, l)
	got, _ := Get(s)
	for i := range got {
		got[i] = at(9, 9, 9)
	}
	gets(t, s, l)
}

// P18.2

func TestSizeAndAt(t *testing.T) {
	for _, c := range []struct{ n, size, at int }{
		{0, 12, 8},
		{1, 36, 32},
		{2, 60, 56},
		{3, 84, 80},
		{1000, 24012, 24008},
		{most - 1, 2147483604, 2147483600},
		{most, 2147483628, 2147483624},
		{most + 1, 0, 0},
		{most + 2, 0, 0},
		{2 * most, 0, 0},
		{1 << 31, 0, 0},
		{1 << 32, 0, 0},
		{math.MaxInt / 24, 0, 0},
		{math.MaxInt/24 + 1, 0, 0},
		{math.MaxInt, 0, 0},
		{math.MaxInt - 1, 0, 0},
		{-1, 0, 0},
		{-2, 0, 0},
		{-most, 0, 0},
		{math.MinInt, 0, 0},
		{math.MinInt + 1, 0, 0},
	} {
		if size, at := Size(c.n), At(c.n); size != c.size || at != c.at {
			t.Errorf("Size and At of %d: %d, %d, not %d, %d", c.n, size, at, c.size, c.at)
		}
	}
	for n := range 5000 {
		if Size(n) != 12+24*n || At(n) != 8+24*n || Size(-1-n) != 0 || At(-1-n) != 0 {
			t.Fatalf("Size and At of %d and %d: %d, %d, %d, %d", n, -1-n, Size(n), At(n), Size(-1-n), At(-1-n))
		}
	}
}

func TestSizeOfWhatIsPut(t *testing.T) {
	l := edges()
	for n := range len(l) {
		if s := puts(t, l[:n]); len(s) != Size(n) {
			t.Fatalf("Put of %d entries: %d bytes, not %d", n, len(s), Size(n))
		}
	}
}

// P18.3

func TestWhatIsPutIsGot(t *testing.T) {
	r := rand.New(rand.NewSource(182))
	for range 2000 {
		l := drawn(r, r.Intn(60))
		s := puts(t, l)
		if s != laid(l) {
			t.Fatalf("Put(%s): %q", show(l...), s)
		}
		gets(t, s, l)
	}
}

func TestWhatIsGotIsPutToTheSameBytes(t *testing.T) {
	r := rand.New(rand.NewSource(183))
	for range 2000 {
		s := laid(drawn(r, r.Intn(60)))
		l, e := Get(s)
		if e != api.OK || puts(t, l) != s {
			t.Fatalf("Get(%.80q): %s, %v", s, show(l...), e)
		}
	}
}

func TestEntriesStandAtTheirPlaces(t *testing.T) {
	l := edges()
	s := puts(t, l)
	for i, e := range l {
		if s[At(i):At(i)+api.EntryBytes] != number(e) {
			t.Fatalf("at %d, the place of entry %d: %x, not %x", At(i), i, s[At(i):At(i)+api.EntryBytes], number(e))
		}
	}
}

func TestOneByteThatIsAnotherOne(t *testing.T) {
	for _, l := range [][]api.Entry{nil, {at(5, 0, 7)}, {at(1, 1, 30), at(1, 1, 50), at(3, 0, 70)}} {
		s := []byte(puts(t, l))
		for i := range s {
			was := s[i]
			for b := range 256 {
				if s[i] = byte(b); s[i] != was {
					isNone(t, "byte "+strconv.Itoa(i)+" as another one", string(s))
				}
			}
			s[i] = was
		}
	}
}

func TestCutOff(t *testing.T) {
	l := edges()[:40]
	for _, some := range [][]api.Entry{nil, l[:1], l[:2], l} {
		s := puts(t, some)
		for end := range len(s) {
			isNone(t, "a table cut off", s[:end])
			isNone(t, "a table without its front", s[len(s)-end:])
		}
	}
}

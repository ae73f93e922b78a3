package entries

import (
	"encoding/binary"
	"math"
	"math/rand"
	"slices"
	"strconv"
	"strings"
	"testing"

	"annalist/api"
)

// at is an entry, shortly.
func at(hash uint64, version, pos int) api.Entry {
	return api.Entry{Hash: hash, Version: version, Pos: pos}
}

// example is the chapter's entries.
func example() []api.Entry {
	return []api.Entry{at(1, 0, 12), at(1, 1, 30), at(1, 1, 50), at(3, 0, 70)}
}

// hashes and numbers are such that an order by signs, by some bytes alone, or by differences that run over, would come out as another one. They rise.
func hashes() []uint64 {
	return []uint64{0, 1, 2, 255, 256, 1<<32 + 1, 1<<63 - 1, 1 << 63, 1<<63 + 1, math.MaxUint64 - 1, math.MaxUint64}
}

func numbers() []int {
	return []int{math.MinInt, math.MinInt + 1, -256, -2, -1, 0, 1, 255, 256, api.MaxVersion, 1<<32 + 1, math.MaxInt - 1, math.MaxInt}
}

// edges is all entries of these numbers, in the chapter's order, also those that may not be.
func edges() []api.Entry {
	var l []api.Entry
	for _, h := range hashes() {
		for _, v := range numbers() {
			for _, p := range numbers() {
				l = append(l, at(h, v, p))
			}
		}
	}
	return l
}

// those is the entries among some that are to be kept.
func those(l []api.Entry, keep func(e api.Entry) bool) []api.Entry {
	var kept []api.Entry
	for _, e := range l {
		if keep(e) {
			kept = append(kept, e)
		}
	}
	return kept
}

// mayBe and mayNotBe are the chapter's words.
func mayBe(e api.Entry) bool { return e.Version >= 0 && e.Pos >= 0 }

func mayNotBe(e api.Entry) bool { return !mayBe(e) }

// laid is three numbers' bytes, as the chapter asks for, put by the library.
func laid(hash, version, pos uint64) string {
	b := binary.BigEndian.AppendUint64(nil, hash)
	b = binary.BigEndian.AppendUint64(b, version)
	return string(binary.BigEndian.AppendUint64(b, pos))
}

// show is entries as a failure tells them, no more than some of them.
func show(l ...api.Entry) string {
	var b strings.Builder
	for i, e := range l {
		if i == 8 {
			return b.String() + ".. (" + strconv.Itoa(len(l)) + ")"
		}
		b.WriteString("[" + strconv.FormatUint(e.Hash, 10) + " " + strconv.Itoa(e.Version) + " " + strconv.Itoa(e.Pos) + "]")
	}
	return b.String()
}

// ahead is the chapter's words: whether an entry stands ahead of another one.
func ahead(a, b api.Entry) bool {
	return a.Hash < b.Hash ||
		a.Hash == b.Hash && a.Version < b.Version ||
		a.Hash == b.Hash && a.Version == b.Version && a.Pos < b.Pos
}

// laidOut is entries in order, each once, by the chapter's words.
func laidOut(l []api.Entry) []api.Entry {
	l = slices.Clone(l)
	slices.SortFunc(l, func(a, b api.Entry) int {
		switch {
		case ahead(a, b):
			return -1
		case ahead(b, a):
			return 1
		}
		return 0
	})
	return slices.Compact(l)
}

// drawn is n entries of few hashes, versions and places: so many are of one hash, and some of one version.
func drawn(r *rand.Rand, n int) []api.Entry {
	l := make([]api.Entry, n)
	for i := range l {
		l[i] = at(uint64(r.Intn(5))<<r.Intn(2), r.Intn(2+n/4)-1, r.Intn(50))
	}
	return l
}

// searched, ranged and lastOf are what Search, Range and Last are to tell of a sorted list, found one by one.
func searched(l []api.Entry, hash uint64, version int) int {
	return len(those(l, func(e api.Entry) bool { return e.Hash < hash || e.Hash == hash && e.Version < version }))
}

func ranged(l []api.Entry, hash uint64, from, to int) []api.Entry {
	return those(l, func(e api.Entry) bool { return e.Hash == hash && from <= e.Version && e.Version <= to })
}

func lastOf(l []api.Entry, hash uint64, upto int) (api.Entry, bool) {
	var last api.Entry
	found := false
	for _, e := range l {
		if e.Hash == hash && e.Version <= upto {
			last, found = e, true
		}
	}
	return last, found
}

// asks holds Search, Range and Last of a sorted list against what they are to tell.
func asks(t *testing.T, l []api.Entry, hash uint64, from, to int) {
	t.Helper()
	if n, want := Search(l, hash, from), searched(l, hash, from); n != want {
		t.Fatalf("Search(%s, %d, %d): %d, not %d", show(l...), hash, from, n, want)
	}
	if told, want := Range(l, hash, from, to), ranged(l, hash, from, to); !slices.Equal(told, want) {
		t.Fatalf("Range(%s, %d, %d, %d): %s, not %s", show(l...), hash, from, to, show(told...), show(want...))
	}
	want, found := lastOf(l, hash, to)
	if e, ok := Last(l, hash, to); e != want || ok != found {
		t.Fatalf("Last(%s, %d, %d): %s, %v, not %s, %v", show(l...), hash, to, show(e), ok, show(want), found)
	}
}

// P13.1

func TestLess(t *testing.T) {
	for _, c := range []struct {
		a, b api.Entry
		want bool
	}{
		{at(1, 1, 30), at(1, 1, 50), true},
		{at(1, 1, 50), at(1, 1, 30), false},
		{at(1, 1, 30), at(1, 1, 30), false},
		{api.Entry{}, api.Entry{}, false},
		{at(1, 9, 9), at(2, 0, 0), true},
		{at(2, 0, 0), at(1, 9, 9), false},
		{at(1, 0, 9), at(1, 1, 0), true},
		{at(1, 1, 0), at(1, 0, 9), false},
		{at(1<<63, 0, 0), at(1, 0, 0), false},
		{at(1, 0, 0), at(1<<63, 0, 0), true},
		{at(0, 0, 0), at(math.MaxUint64, 0, 0), true},
		{at(1, -1, 0), at(1, 0, 0), true},
		{at(1, math.MinInt, 0), at(1, math.MaxInt, 0), true},
		{at(1, 1, -1), at(1, 1, 0), true},
		{at(1, 1, math.MaxInt), at(1, 1, math.MinInt), false},
	} {
		if Less(c.a, c.b) != c.want {
			t.Errorf("Less(%s, %s): %v", show(c.a), show(c.b), !c.want)
		}
	}
}

func TestLessOfAllPairs(t *testing.T) {
	l := edges()
	for i, a := range l {
		for k, b := range l {
			if Less(a, b) != (i < k) {
				t.Fatalf("Less(%s, %s): %v", show(a), show(b), i >= k)
			}
		}
	}
}

func TestSorted(t *testing.T) {
	l := example()
	for i, c := range []struct {
		l    []api.Entry
		want bool
	}{
		{nil, true},
		{[]api.Entry{}, true},
		{l[:1], true},
		{[]api.Entry{at(1, -1, -1)}, true},
		{l, true},
		{l[1:3], true},
		{[]api.Entry{l[2], l[1]}, false},
		{[]api.Entry{l[1], l[1]}, false},
		{[]api.Entry{l[0], l[1], l[1], l[2]}, false},
		{[]api.Entry{l[0], l[2], l[1]}, false},
		{[]api.Entry{l[0], l[2], l[1], l[3]}, false},
		{[]api.Entry{l[1], l[0], l[2], l[3]}, false},
		{[]api.Entry{l[0], l[1], l[3], l[2]}, false},
		{[]api.Entry{{}, {}}, false},
		{[]api.Entry{at(1, 5, 9), at(2, 4, 8), at(3, 3, 7)}, true},
		{[]api.Entry{at(1, 5, 9), at(1, 6, 8), at(1, 7, 7)}, true},
		{[]api.Entry{at(1, -2, 0), at(1, -1, -5), at(1, -1, 0)}, true},
		{[]api.Entry{at(1, 0, 0), at(1, -1, 0)}, false},
	} {
		if Sorted(c.l) != c.want {
			t.Errorf("Sorted of list %d, %s: %v", i, show(c.l...), !c.want)
		}
	}
	if !Sorted(edges()) {
		t.Error("Sorted of all edges is false")
	}
}

func TestSortedOfOneThatIsAmiss(t *testing.T) {
	l := edges()[:200]
	for i := 1; i < len(l); i++ {
		swapped, doubled := slices.Clone(l), slices.Clone(l)
		swapped[i-1], swapped[i] = l[i], l[i-1]
		doubled[i] = l[i-1]
		if Sorted(swapped) || Sorted(doubled) {
			t.Errorf("Sorted of entries of which %d is amiss: %v, %v", i, Sorted(swapped), Sorted(doubled))
		}
	}
}

func TestSortedOfNoise(t *testing.T) {
	r := rand.New(rand.NewSource(13))
	for range 20000 {
		l := drawn(r, r.Intn(5))
		want := slices.Equal(l, laidOut(l))
		if Sorted(l) != want {
			t.Fatalf("Sorted(%s): %v", show(l...), !want)
		}
	}
}

// P13.2

func TestPut(t *testing.T) {
	for _, c := range []struct {
		e    api.Entry
		want string
	}{
		{api.Entry{}, strings.Repeat("\x00", 24)},
		{at(1, 2, 3), "\x00\x00\x00\x00\x00\x00\x00\x01\x00\x00\x00\x00\x00\x00\x00\x02\x00\x00\x00\x00\x00\x00\x00\x03"},
		{at(0x0102030405060708, 0x1112131415161718, 0x2122232425262728), "\x01\x02\x03\x04\x05\x06\x07\x08\x11\x12\x13\x14\x15\x16\x17\x18\x21\x22\x23\x24\x25\x26\x27\x28"},
		{at(math.MaxUint64, math.MaxInt, math.MaxInt), strings.Repeat("\xff", 8) + strings.Repeat("\x7f"+strings.Repeat("\xff", 7), 2)},
		{at(1<<63, api.MaxVersion, 256), "\x80\x00\x00\x00\x00\x00\x00\x00\x00\x00\x00\x00\x40\x00\x00\x00\x00\x00\x00\x00\x00\x00\x01\x00"},
	} {
		if s := Put(c.e); s != c.want {
			t.Errorf("Put(%s): %q, not %q", show(c.e), s, c.want)
		}
	}
	for _, e := range those(edges(), mayBe) {
		if s := Put(e); s != laid(e.Hash, uint64(e.Version), uint64(e.Pos)) || len(s) != api.EntryBytes {
			t.Errorf("Put(%s): %q", show(e), s)
		}
	}
}

func TestPutOfThoseThatMayNotBe(t *testing.T) {
	l := those(edges(), mayNotBe)
	l = append(l, at(5, -1, 7), at(5, 7, -1), at(5, -1, -1), at(5, math.MinInt, 0), at(5, 0, math.MinInt))
	for _, e := range l {
		if s := Put(e); s != "" {
			t.Errorf("Put(%s): %q", show(e), s)
		}
	}
}

// getsNothing holds what is got of some bytes against zero, and false.
func getsNothing(t *testing.T, s string) {
	t.Helper()
	if e, ok := Get(s); ok || e != (api.Entry{}) {
		t.Errorf("Get of %d bytes, %q: %s, %v", len(s), s, show(e), ok)
	}
}

func TestGet(t *testing.T) {
	for _, c := range []struct {
		s    string
		want api.Entry
	}{
		{strings.Repeat("\x00", 24), api.Entry{}},
		{laid(1, 2, 3), at(1, 2, 3)},
		{"\x01\x02\x03\x04\x05\x06\x07\x08\x11\x12\x13\x14\x15\x16\x17\x18\x21\x22\x23\x24\x25\x26\x27\x28", at(0x0102030405060708, 0x1112131415161718, 0x2122232425262728)},
		{laid(math.MaxUint64, math.MaxInt64, math.MaxInt64), at(math.MaxUint64, math.MaxInt64, math.MaxInt64)},
		{laid(1<<63, 0, math.MaxInt64-1), at(1<<63, 0, math.MaxInt64-1)},
	} {
		if e, ok := Get(c.s); e != c.want || !ok {
			t.Errorf("Get(%q): %s, %v, not %s", c.s, show(e), ok, show(c.want))
		}
	}
}

func TestGetOfNumbersThatAreTooGreat(t *testing.T) {
	for _, n := range []uint64{1 << 63, 1<<63 + 1, 1<<63 + 1<<32, math.MaxUint64 - 1, math.MaxUint64} {
		for _, hash := range hashes() {
			for _, other := range []uint64{0, 1, 1 << 30, math.MaxInt64} {
				getsNothing(t, laid(hash, n, other))
				getsNothing(t, laid(hash, other, n))
				getsNothing(t, laid(hash, n, n))
			}
		}
	}
}

func TestGetOfOtherLengths(t *testing.T) {
	for _, whole := range []string{laid(1, 2, 3), laid(0, 0, 0), laid(0x0102030405060708, 0x1112131415161718, 0x2122232425262728)} {
		for n := range api.EntryBytes {
			getsNothing(t, whole[:n])
			getsNothing(t, whole[api.EntryBytes-n:])
		}
		for _, more := range []string{"\x00", "a", whole[:8], whole, strings.Repeat("\x00", 70000)} {
			getsNothing(t, whole+more)
			getsNothing(t, more+whole)
		}
	}
}

// P13.3

func TestSearch(t *testing.T) {
	for _, c := range []struct {
		l       []api.Entry
		hash    uint64
		version int
		want    int
	}{
		{example(), 1, 1, 1},
		{example(), 2, 0, 3},
		{example(), 9, 9, 4},
		{example(), 0, 9, 0},
		{example(), 1, 0, 0},
		{example(), 1, -1, 0},
		{example(), 1, 2, 3},
		{example(), 1, math.MinInt, 0},
		{example(), 1, math.MaxInt, 3},
		{example(), 3, 0, 3},
		{example(), 3, 1, 4},
		{example(), math.MaxUint64, math.MaxInt, 4},
		{nil, 1, 1, 0},
		{[]api.Entry{}, 0, math.MaxInt, 0},
		{example()[1:3], 1, 1, 0},
		{example()[1:3], 1, 2, 2},
	} {
		if n := Search(c.l, c.hash, c.version); n != c.want {
			t.Errorf("Search(%s, %d, %d): %d, not %d", show(c.l...), c.hash, c.version, n, c.want)
		}
	}
}

func TestRange(t *testing.T) {
	l := example()
	for _, c := range []struct {
		hash     uint64
		from, to int
		want     []api.Entry
	}{
		{1, 1, 5, l[1:3]},
		{3, 1, 9, nil},
		{1, 0, 0, l[:1]},
		{1, 0, 1, l[:3]},
		{1, 1, 1, l[1:3]},
		{1, 2, 5, nil},
		{1, -5, -1, nil},
		{1, math.MinInt, math.MaxInt, l[:3]},
		{1, 1, 0, nil},
		{1, 5, 0, nil},
		{1, math.MaxInt, math.MinInt, nil},
		{2, math.MinInt, math.MaxInt, nil},
		{0, 0, 9, nil},
		{3, 0, math.MaxInt, l[3:]},
		{3, math.MinInt, 0, l[3:]},
		{math.MaxUint64, 0, 9, nil},
	} {
		if told := Range(l, c.hash, c.from, c.to); !slices.Equal(told, c.want) {
			t.Errorf("Range of %d, %d, %d: %s, not %s", c.hash, c.from, c.to, show(told...), show(c.want...))
		}
	}
	if told := Range(nil, 1, 0, 9); len(told) != 0 {
		t.Errorf("Range of none: %s", show(told...))
	}
}

func TestLast(t *testing.T) {
	l := example()
	for _, c := range []struct {
		hash uint64
		upto int
		want api.Entry
		ok   bool
	}{
		{1, 1, l[2], true},
		{1, -1, api.Entry{}, false},
		{1, 0, l[0], true},
		{1, 9, l[2], true},
		{1, math.MaxInt, l[2], true},
		{1, math.MinInt, api.Entry{}, false},
		{0, 9, api.Entry{}, false},
		{2, 9, api.Entry{}, false},
		{3, 0, l[3], true},
		{3, -1, api.Entry{}, false},
		{3, math.MaxInt, l[3], true},
		{4, 9, api.Entry{}, false},
		{math.MaxUint64, math.MaxInt, api.Entry{}, false},
	} {
		if e, ok := Last(l, c.hash, c.upto); e != c.want || ok != c.ok {
			t.Errorf("Last of %d, %d: %s, %v, not %s, %v", c.hash, c.upto, show(e), ok, show(c.want), c.ok)
		}
	}
	if e, ok := Last(nil, 0, 9); e != (api.Entry{}) || ok {
		t.Errorf("Last of none: %s, %v", show(e), ok)
	}
}

func TestAskedOfAllPartsOfAFew(t *testing.T) {
	var all []api.Entry
	for _, h := range []uint64{1, 3} {
		for v := range 3 {
			all = append(all, at(h, v, 12), at(h, v, 30))
		}
	}
	for part := range 1 << len(all) {
		var l []api.Entry
		for i, e := range all {
			if part&(1<<i) != 0 {
				l = append(l, e)
			}
		}
		for hash := range uint64(5) {
			for from := -1; from <= 3; from++ {
				for to := -1; to <= 3; to++ {
					asks(t, l, hash, from, to)
				}
			}
		}
	}
}

func TestAskedAtEdges(t *testing.T) {
	all := edges()
	for _, l := range [][]api.Entry{all, those(all, mayBe), those(all, func(e api.Entry) bool { return e.Hash == 1<<63 })} {
		for _, hash := range append(hashes(), 3, 1<<40) {
			for _, from := range numbers() {
				for _, to := range []int{math.MinInt, -1, 0, 5, math.MaxInt - 1, math.MaxInt} {
					asks(t, l, hash, from, to)
				}
			}
		}
	}
}

func TestAskedOfOneHashAlone(t *testing.T) {
	var l []api.Entry
	for v := range 130 {
		for hash := range uint64(5) {
			for from := -1; from <= v+1; from += 1 + v/8 {
				asks(t, l, hash, from, v/2)
				asks(t, l, hash, from, v)
			}
		}
		l = append(l, at(2, v, 40*v))
	}
}

func TestAskedOfNoise(t *testing.T) {
	r := rand.New(rand.NewSource(131))
	for range 4000 {
		l := laidOut(drawn(r, r.Intn(70)))
		for range 30 {
			from := r.Intn(22) - 2
			asks(t, l, uint64(r.Intn(10)), from, from+r.Intn(12)-2)
		}
	}
}

// of holds what is told of any list against what is promised of all of them: Search is no place outside, what is told is of the list.
func of(t *testing.T, l []api.Entry, hash uint64, from, to int) {
	t.Helper()
	if n := Search(l, hash, from); n < 0 || n > len(l) {
		t.Fatalf("Search(%s, %d, %d): %d", show(l...), hash, from, n)
	}
	told := Range(l, hash, from, to)
	if len(told) > len(l) {
		t.Fatalf("Range(%s, %d, %d, %d): %d entries", show(l...), hash, from, to, len(told))
	}
	for _, e := range told {
		if !slices.Contains(l, e) {
			t.Fatalf("Range(%s, %d, %d, %d): %s", show(l...), hash, from, to, show(told...))
		}
	}
	e, ok := Last(l, hash, to)
	if ok && !slices.Contains(l, e) || !ok && e != (api.Entry{}) {
		t.Fatalf("Last(%s, %d, %d): %s, %v", show(l...), hash, to, show(e), ok)
	}
}

func TestAskedOfAFewThatAreNotSorted(t *testing.T) {
	some := append(example(), at(0, 9, 9))
	for length := range 6 {
		many := 1
		for range length {
			many *= len(some)
		}
		for pick := range many {
			l := make([]api.Entry, length)
			for i := range l {
				l[i] = some[pick%len(some)]
				pick /= len(some)
			}
			for hash := range uint64(4) {
				for from := -1; from <= 2; from++ {
					for to := -1; to <= 2; to++ {
						of(t, l, hash, from, to)
					}
				}
			}
		}
	}
}

func TestAskedOfNoiseThatIsNotSorted(t *testing.T) {
	r := rand.New(rand.NewSource(132))
	some := edges()
	for range 3000 {
		l := drawn(r, r.Intn(70))
		for i := range l {
			if r.Intn(4) == 0 {
				l[i] = some[r.Intn(len(some))]
			}
		}
		for range 10 {
			of(t, l, uint64(r.Intn(10)), r.Intn(22)-2, r.Intn(22)-2)
			of(t, l, some[r.Intn(len(some))].Hash, some[r.Intn(len(some))].Version, some[r.Intn(len(some))].Version)
		}
	}
}

func TestListsStayAsTheyWere(t *testing.T) {
	r := rand.New(rand.NewSource(133))
	for i := range 200 {
		l := drawn(r, i)
		if i%2 == 0 {
			l = laidOut(l)
		}
		was := slices.Clone(l)
		Sorted(l)
		Search(l, 2, 3)
		Range(l, 2, 0, 9)
		Last(l, 2, 9)
		if !slices.Equal(l, was) {
			t.Fatalf("another list behind the calls: %s, not %s", show(l...), show(was...))
		}
	}
}

func TestARangeIsTheCallersOwn(t *testing.T) {
	// One that could grow into what lies behind it would write over the list's, or the other one's, entries.
	l := example()
	one, other := Range(l, 1, 0, 1), Range(l, 1, 0, 1)
	for i := range one {
		one[i] = at(7, 7, 7)
	}
	_ = append(one, at(8, 8, 8))
	_ = append(Range(l, 1, 0, 0), at(8, 8, 8))
	_ = append(Range(l, 1, 5, 9), at(8, 8, 8))
	_ = append(Range(l, 0, 0, 9), at(8, 8, 8))
	if !slices.Equal(l, example()) || !slices.Equal(other, example()[:3]) {
		t.Errorf("behind a change of what Range told: %s, %s", show(l...), show(other...))
	}
	for i := range l {
		l[i] = at(9, 9, 9)
	}
	if !slices.Equal(other, example()[:3]) {
		t.Errorf("behind a change of the list: %s", show(other...))
	}
}

// P13.4

func TestGetOfPut(t *testing.T) {
	r := rand.New(rand.NewSource(134))
	l := those(edges(), mayBe)
	for range 5000 {
		l = append(l, at(r.Uint64(), r.Int(), r.Int()>>r.Intn(63)))
	}
	for _, e := range l {
		if got, ok := Get(Put(e)); got != e || !ok {
			t.Errorf("Get(Put(%s)): %s, %v", show(e), show(got), ok)
		}
	}
}

func TestPutOfGet(t *testing.T) {
	r := rand.New(rand.NewSource(135))
	b := make([]byte, api.EntryBytes)
	got := 0
	for range 20000 {
		r.Read(b)
		e, ok := Get(string(b))
		if ok != (b[8] < 0x80 && b[16] < 0x80) {
			t.Fatalf("Get(%q): %v", b, ok)
		}
		if ok {
			got++
			if s := Put(e); s != string(b) {
				t.Fatalf("Put(Get(%q)): %q", b, s)
			}
		} else if e != (api.Entry{}) {
			t.Fatalf("Get(%q): %s", b, show(e))
		}
	}
	if got < 1000 {
		t.Errorf("%d entries were got", got)
	}
}

func TestEntriesStandAsTheirBytes(t *testing.T) {
	l := those(edges(), mayBe)
	for _, a := range l {
		x := Put(a)
		for _, b := range l {
			if y := Put(b); Less(a, b) != (x < y) || (a == b) != (x == y) {
				t.Fatalf("%s and %s do not stand as %q and %q", show(a), show(b), x, y)
			}
		}
	}
}

func TestRangesHaveAll(t *testing.T) {
	r := rand.New(rand.NewSource(136))
	for range 500 {
		l := laidOut(drawn(r, r.Intn(100)))
		var put []api.Entry
		for hash := range uint64(10) {
			// What a hash has, cut at any version, is all that it has.
			cut := r.Intn(30) - 2
			put = append(put, Range(l, hash, math.MinInt, cut)...)
			put = append(put, Range(l, hash, cut+1, math.MaxInt)...)
		}
		if !slices.Equal(put, l) {
			t.Fatalf("the ranges of %s: %s", show(l...), show(put...))
		}
	}
}

func TestLastIsTheEndOfARange(t *testing.T) {
	r := rand.New(rand.NewSource(137))
	for range 2000 {
		l := laidOut(drawn(r, r.Intn(60)))
		for hash := range uint64(10) {
			upto := r.Intn(24) - 3
			told := Range(l, hash, math.MinInt, upto)
			e, ok := Last(l, hash, upto)
			if ok != (len(told) > 0) || ok && e != told[len(told)-1] {
				t.Fatalf("Last(%s, %d, %d): %s, %v", show(l...), hash, upto, show(e), ok)
			}
		}
	}
}

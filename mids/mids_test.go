package mids

import (
	"math"
	"math/rand"
	"slices"
	"strconv"
	"strings"
	"testing"

	"annalist/api"
	"annalist/entries"
)

// gap is the chapter's number of entries from one midpoint to the next one.
const gap = 8

// at is an entry, shortly; mid a midpoint.
func at(hash uint64, version, pos int) api.Entry {
	return api.Entry{Hash: hash, Version: version, Pos: pos}
}

func mid(e api.Entry, n int) api.Mid { return api.Mid{Entry: e, At: n} }

// show is entries as a failure tells them, no more than some of them; shown is midpoints.
func show(l ...api.Entry) string {
	var b strings.Builder
	for i, e := range l {
		if i == 12 {
			return b.String() + ".. (" + strconv.Itoa(len(l)) + ")"
		}
		b.WriteString("[" + strconv.FormatUint(e.Hash, 10) + " " + strconv.Itoa(e.Version) + " " + strconv.Itoa(e.Pos) + "]")
	}
	return b.String()
}

func shown(m []api.Mid) string {
	var b strings.Builder
	for i, x := range m {
		if i == 12 {
			return b.String() + ".. (" + strconv.Itoa(len(m)) + ")"
		}
		b.WriteString(strconv.Itoa(x.At) + show(x.Entry))
	}
	return b.String()
}

// versions is n entries of one hash, whose versions are apart: so there are some between them that are none of these.
func versions(n, apart int) []api.Entry {
	var l []api.Entry
	for i := range n {
		l = append(l, at(0, apart*i, 0))
	}
	return l
}

// ahead is the chapter's words: whether an entry stands ahead of another one.
func ahead(a, b api.Entry) bool {
	return a.Hash < b.Hash ||
		a.Hash == b.Hash && a.Version < b.Version ||
		a.Hash == b.Hash && a.Version == b.Version && a.Pos < b.Pos
}

// laidOut is entries in order, each once.
func laidOut(l []api.Entry) []api.Entry {
	l = slices.Clone(l)
	slices.SortFunc(l, func(a, b api.Entry) int {
		switch {
		case ahead(a, b):
			return -1
		case ahead(b, a):
			return 1
		}
		return 0
	})
	return slices.Compact(l)
}

// edges is entries of numbers at both ends, of which many differ in one field alone, in order.
func edges() []api.Entry {
	var l []api.Entry
	for _, h := range []uint64{0, 1, 1<<63 - 1, 1 << 63, math.MaxUint64} {
		for _, v := range []int{math.MinInt, -1, 0, 1, api.MaxVersion, math.MaxInt} {
			for _, p := range []int{math.MinInt, -1, 0, 1, math.MaxInt} {
				l = append(l, at(h, v, p))
			}
		}
	}
	return l
}

// drawn is n entries of few hashes, versions and places: so many differ in one field alone.
func drawn(r *rand.Rand, n int) []api.Entry {
	l := make([]api.Entry, n)
	for i := range l {
		l[i] = at(uint64(r.Intn(4)), r.Intn(2+n/8)-1, r.Intn(6)-1)
	}
	return l
}

// made is the chapter's words of Make: the multiples are told by steps, and the last one is laid behind them, if it is none of these.
func made(l []api.Entry) []api.Mid {
	var m []api.Mid
	for n := 0; n < len(l); n += gap {
		m = append(m, mid(l[n], n))
	}
	if last := len(l) - 1; last >= 0 && m[len(m)-1].At != last {
		m = append(m, mid(l[last], last))
	}
	return m
}

// narrowed is the chapter's words of Narrow, of midpoints of many entries, in order: they are gone through from behind.
func narrowed(m []api.Mid, many int, e api.Entry) (lo, hi int) {
	hi = max(many, 0)
	for _, x := range slices.Backward(m) {
		if ahead(x.Entry, e) {
			return x.At + 1, hi
		}
		hi = x.At
	}
	return 0, hi
}

// numbers is the midpoints' numbers.
func numbers(m []api.Mid) []int {
	var l []int
	for _, x := range m {
		l = append(l, x.At)
	}
	return l
}

// makes holds Make of some entries against what it is to tell.
func makes(t *testing.T, l []api.Entry) {
	t.Helper()
	if m, want := Make(l), made(l); !slices.Equal(m, want) {
		t.Fatalf("Make of %d, %s: %s, not %s", len(l), show(l...), shown(m), shown(want))
	}
}

// narrows holds Narrow against what it is to tell of midpoints that are some, in order.
func narrows(t *testing.T, m []api.Mid, many int, e api.Entry) {
	t.Helper()
	lo, hi := Narrow(m, many, e)
	if low, high := narrowed(m, many, e); lo != low || hi != high {
		t.Fatalf("Narrow(%s, %d, %s): %d, %d, not %d, %d", shown(m), many, show(e), lo, hi, low, high)
	}
}

// ends holds what Narrow tells of whatever midpoints against what holds of all of them.
func ends(t *testing.T, m []api.Mid, many int, e api.Entry) {
	t.Helper()
	if lo, hi := Narrow(m, many, e); lo < 0 || lo > hi || hi > max(many, 0) {
		t.Fatalf("Narrow(%s, %d, %s): %d, %d", shown(m), many, show(e), lo, hi)
	}
}

// P17.1

func TestMake(t *testing.T) {
	l := versions(20, 1)
	m := Make(l)
	if want := []api.Mid{mid(l[0], 0), mid(l[8], 8), mid(l[16], 16), mid(l[19], 19)}; !slices.Equal(m, want) {
		t.Errorf("Make of 20: %s, not %s", shown(m), shown(want))
	}
	for _, c := range []struct {
		n    int
		want []int
	}{
		{0, nil},
		{1, []int{0}},
		{2, []int{0, 1}},
		{7, []int{0, 6}},
		{8, []int{0, 7}},
		{9, []int{0, 8}},
		{10, []int{0, 8, 9}},
		{16, []int{0, 8, 15}},
		{17, []int{0, 8, 16}},
		{18, []int{0, 8, 16, 17}},
		{25, []int{0, 8, 16, 24}},
	} {
		if told := numbers(Make(versions(c.n, 1))); !slices.Equal(told, c.want) {
			t.Errorf("Make of %d: %v, not %v", c.n, told, c.want)
		}
	}
}

func TestMakeOfNone(t *testing.T) {
	for _, l := range [][]api.Entry{nil, {}, versions(9, 1)[:0]} {
		if m := Make(l); len(m) != 0 {
			t.Errorf("Make of none: %s", shown(m))
		}
	}
}

func TestMakeOfEachLength(t *testing.T) {
	l := drawn(rand.New(rand.NewSource(17)), 300)
	for n := range len(l) + 1 {
		makes(t, versions(n, 1))
		makes(t, l[:n])
		makes(t, l[n:])
		makes(t, laidOut(l[:n]))
	}
	makes(t, edges())
	makes(t, versions(50000, 1))
}

// TestMakeOfEntriesThatAreAlike has midpoints that only their numbers tell apart.
func TestMakeOfEntriesThatAreAlike(t *testing.T) {
	for n := range 60 {
		makes(t, make([]api.Entry, n))
		makes(t, slices.Repeat([]api.Entry{at(5, 1, 12)}, n))
	}
}

func TestMakeOfEntriesInNoOrder(t *testing.T) {
	l := edges()
	slices.Reverse(l)
	for n := range len(l) + 1 {
		makes(t, l[:n])
	}
}

func TestMakeLeavesEntriesAsTheyWere(t *testing.T) {
	for n := range 40 {
		l := versions(n, 1)
		m := Make(l)
		want := slices.Clone(m)
		if !slices.Equal(l, versions(n, 1)) {
			t.Fatalf("Make of %d changed them: %s", n, show(l...))
		}
		for i := range l {
			l[i] = at(77, 77, 77)
		}
		if !slices.Equal(m, want) {
			t.Fatalf("Make of %d is changed with them: %s", n, shown(m))
		}
		for i := range m {
			m[i] = mid(at(66, 66, 66), 66)
		}
		if l, want = versions(n, 1), made(versions(n, 1)); !slices.Equal(Make(l), want) {
			t.Fatalf("Make of %d, behind one that was changed: %s", n, shown(Make(l)))
		}
	}
}

// P17.2

func TestNarrow(t *testing.T) {
	m := Make(versions(20, 1))
	for _, c := range []struct {
		e      api.Entry
		lo, hi int
	}{
		{at(0, 9, 0), 9, 16},
		{at(0, 8, 0), 1, 8},
		{at(0, 0, 0), 0, 0},
		{at(0, 25, 0), 20, 20},
		{at(0, -1, 0), 0, 0},
		{at(0, 0, 1), 1, 8},
		{at(0, 1, 0), 1, 8},
		{at(0, 7, 0), 1, 8},
		{at(0, 8, -1), 1, 8},
		{at(0, 8, 1), 9, 16},
		{at(0, 16, 0), 9, 16},
		{at(0, 16, 1), 17, 19},
		{at(0, 17, 0), 17, 19},
		{at(0, 19, 0), 17, 19},
		{at(0, 19, 1), 20, 20},
		{at(0, 20, 0), 20, 20},
		{at(1, 0, 0), 20, 20},
		{at(1, math.MinInt, math.MinInt), 20, 20},
		{at(math.MaxUint64, 0, 0), 20, 20},
		{at(0, math.MinInt, math.MaxInt), 0, 0},
		{at(0, math.MaxInt, math.MinInt), 20, 20},
	} {
		if lo, hi := Narrow(m, 20, c.e); lo != c.lo || hi != c.hi {
			t.Errorf("Narrow of 20, %s: %d, %d, not %d, %d", show(c.e), lo, hi, c.lo, c.hi)
		}
	}
}

func TestNarrowWithoutMidpoints(t *testing.T) {
	for _, m := range [][]api.Mid{nil, {}} {
		for _, c := range []struct{ many, hi int }{
			{0, 0}, {1, 1}, {20, 20}, {math.MaxInt, math.MaxInt}, {-1, 0}, {math.MinInt, 0},
		} {
			for _, e := range []api.Entry{{}, at(5, 1, 12), at(math.MaxUint64, math.MaxInt, math.MaxInt)} {
				if lo, hi := Narrow(m, c.many, e); lo != 0 || hi != c.hi {
					t.Errorf("Narrow of no midpoints, %d, %s: %d, %d, not 0, %d", c.many, show(e), lo, hi, c.hi)
				}
			}
		}
	}
}

func TestNarrowOfManyBelowNought(t *testing.T) {
	for n := range 30 {
		m := Make(versions(n, 1))
		for _, many := range []int{-1, -2, -7, -8, -20, math.MinInt, math.MinInt + 1} {
			for v := -1; v <= n; v++ {
				if lo, hi := Narrow(m, many, at(0, v, 0)); lo != 0 || hi != 0 {
					t.Fatalf("Narrow(%s, %d, version %d): %d, %d", shown(m), many, v, lo, hi)
				}
			}
		}
	}
}

// TestNarrowOfAllChoices has each choice among ten entries as midpoints, also such as Make would not tell, and entries behind the last one.
func TestNarrowOfAllChoices(t *testing.T) {
	l := []api.Entry{at(1, 0, 12), at(1, 0, 13), at(1, 1, 0), at(1, 1, 30), at(2, -1, 5), at(2, 0, 5), at(3, 0, 0), at(3, 7, 0), at(1<<63, 0, 0), at(math.MaxUint64, 0, 0)}
	asked := slices.Clone(l)
	for _, e := range l {
		asked = append(asked, at(e.Hash, e.Version, e.Pos-1), at(e.Hash, e.Version, e.Pos+1), at(e.Hash, e.Version-1, 99), at(e.Hash, e.Version+1, -99), at(e.Hash-1, 99, 99), at(e.Hash+1, -99, -99))
	}
	for choice := range 1 << len(l) {
		var m []api.Mid
		for n, e := range l {
			if choice>>n&1 == 1 {
				m = append(m, mid(e, n))
			}
		}
		for _, e := range asked {
			narrows(t, m, len(l), e)
			narrows(t, m, len(l)+5, e)
		}
	}
}

func TestNarrowOfMidpointsThatAreFarApart(t *testing.T) {
	m := []api.Mid{mid(at(1, 0, 0), 5), mid(at(2, 0, 0), 1<<40), mid(at(3, 0, 0), math.MaxInt-1)}
	for _, c := range []struct {
		e      api.Entry
		lo, hi int
	}{
		{at(1, 0, 0), 0, 5},
		{at(2, 0, 0), 6, 1 << 40},
		{at(3, 0, 0), 1<<40 + 1, math.MaxInt - 1},
		{at(4, 0, 0), math.MaxInt, math.MaxInt},
	} {
		if lo, hi := Narrow(m, math.MaxInt, c.e); lo != c.lo || hi != c.hi {
			t.Errorf("Narrow of %s: %d, %d, not %d, %d", show(c.e), lo, hi, c.lo, c.hi)
		}
	}
}

func TestNarrowOfNoise(t *testing.T) {
	r := rand.New(rand.NewSource(172))
	for range 3000 {
		l := laidOut(drawn(r, r.Intn(60)))
		m := slices.DeleteFunc(Make(l), func(api.Mid) bool { return r.Intn(5) == 0 })
		for _, e := range drawn(r, 20) {
			narrows(t, m, len(l), e)
		}
	}
}

// TestNarrowOfMidpointsThatAreNone has numbers that no entry has.
func TestNarrowOfMidpointsThatAreNone(t *testing.T) {
	many := []int{math.MinInt, -1, 0, 1, 7, 8, 20, math.MaxInt - 1, math.MaxInt}
	at1, at2, at3 := at(0, 1, 0), at(0, 2, 0), at(0, 3, 0)
	for _, first := range many {
		for _, second := range many {
			for _, n := range many {
				for v := range 5 {
					e := at(0, v, 0)
					ends(t, []api.Mid{mid(at1, first)}, n, e)
					ends(t, []api.Mid{mid(at1, first), mid(at3, second)}, n, e)
					ends(t, []api.Mid{mid(at3, first), mid(at1, second)}, n, e)
					ends(t, []api.Mid{mid(at2, first), mid(at2, second), mid(at2, first)}, n, e)
					ends(t, []api.Mid{mid(at2, first), mid(at1, second), mid(at3, first)}, n, e)
				}
			}
		}
	}
}

// TestNarrowOfFewerEntries has midpoints of more entries than are said to be there.
func TestNarrowOfFewerEntries(t *testing.T) {
	for n := range 40 {
		m := Make(versions(n, 1))
		for many := range n {
			for v := -1; v <= n; v++ {
				ends(t, m, many, at(0, v, 0))
			}
		}
	}
}

func TestNarrowOfMidpointsInNoOrder(t *testing.T) {
	r := rand.New(rand.NewSource(173))
	for range 20000 {
		n := r.Intn(60)
		m := Make(drawn(r, n))
		switch r.Intn(3) {
		case 0:
			slices.Reverse(m)
		case 1:
			r.Shuffle(len(m), func(i, k int) { m[i], m[k] = m[k], m[i] })
		}
		for i := range m {
			if r.Intn(4) == 0 {
				m[i].At = r.Intn(200) - 100
			}
		}
		for _, e := range drawn(r, 4) {
			ends(t, m, n, e)
		}
	}
}

func TestNarrowLeavesMidpointsAsTheyWere(t *testing.T) {
	m := Make(versions(40, 1))
	was := slices.Clone(m)
	for v := -1; v < 42; v++ {
		Narrow(m, 40, at(0, v, 0))
		Narrow(m, -1, at(0, v, 0))
		Narrow(m, 3, at(0, v, 0))
	}
	if !slices.Equal(m, was) {
		t.Errorf("Narrow changed midpoints: %s", shown(m))
	}
}

// P17.3

// finds holds what Narrow tells of sorted entries' midpoints against how many of them stand ahead, counted one by one.
func finds(t *testing.T, l []api.Entry, m []api.Mid, e api.Entry) {
	t.Helper()
	n := 0
	for _, one := range l {
		if ahead(one, e) {
			n++
		}
	}
	lo, hi := Narrow(m, len(l), e)
	if n < lo || n > hi || hi-lo > gap-1 || lo < 0 || hi > len(l) {
		t.Fatalf("Narrow among %s of %s: %d, %d, where %d stand ahead", show(l...), show(e), lo, hi, n)
	}
	narrows(t, m, len(l), e)
}

func TestThoseAheadAreFromLoToHi(t *testing.T) {
	for n := range 70 {
		l := versions(n, 2)
		m := Make(l)
		for v := -2; v <= 2*n+1; v++ {
			finds(t, l, m, at(0, v, 0))
			finds(t, l, m, at(0, v, -1))
			finds(t, l, m, at(0, v, 1))
		}
		finds(t, l, m, at(1, 0, 0))
		finds(t, l, m, at(math.MaxUint64, math.MaxInt, math.MaxInt))
		finds(t, l, m, at(0, math.MinInt, math.MinInt))
	}
}

func TestThoseAheadOfEdges(t *testing.T) {
	l := edges()
	for from := range gap {
		for _, to := range []int{from, from + 1, 60, len(l) - 1, len(l)} {
			some := l[from:to]
			m := Make(some)
			for _, e := range l {
				finds(t, some, m, e)
			}
		}
	}
}

func TestThoseAheadOfNoise(t *testing.T) {
	r := rand.New(rand.NewSource(174))
	for range 2000 {
		l := laidOut(drawn(r, r.Intn(120)))
		m := Make(l)
		for _, e := range drawn(r, 20) {
			finds(t, l, m, e)
		}
		for range min(len(l), 20) {
			finds(t, l, m, l[r.Intn(len(l))])
		}
	}
}

// TestThoseAheadAreThoseOfEntries holds it against entries.Search too, which is what a table is asked for.
func TestThoseAheadAreThoseOfEntries(t *testing.T) {
	r := rand.New(rand.NewSource(175))
	for range 2000 {
		l := laidOut(drawn(r, r.Intn(120)))
		m := Make(l)
		hash, version := uint64(r.Intn(5)), r.Intn(20)-2
		n := entries.Search(l, hash, version)
		if lo, hi := Narrow(m, len(l), at(hash, version, math.MinInt)); n < lo || n > hi {
			t.Fatalf("Narrow among %s of %d, %d: %d, %d, where Search is %d", show(l...), hash, version, lo, hi, n)
		}
	}
}

package memtable

import (
	"cmp"
	"math"
	"math/rand"
	"slices"
	"strconv"
	"strings"
	"testing"

	"annalist/api"
	"annalist/entries"
)

// at is an entry, shortly.
func at(hash uint64, version, pos int) api.Entry {
	return api.Entry{Hash: hash, Version: version, Pos: pos}
}

// show is entries as a failure tells them, no more than some of them.
func show(l ...api.Entry) string {
	var b strings.Builder
	for i, e := range l {
		if i == 12 {
			return b.String() + ".. (" + strconv.Itoa(len(l)) + ")"
		}
		b.WriteString("[" + strconv.FormatUint(e.Hash, 10) + " " + strconv.Itoa(e.Version) + " " + strconv.Itoa(e.Pos) + "]")
	}
	return b.String()
}

// held is a table with some entries.
func held(l ...api.Entry) *Table {
	t := New()
	for _, e := range l {
		t.Add(e)
	}
	return t
}

// order is the chapter's words: by Hash, then by Version, then by Pos.
func order(a, b api.Entry) int {
	return cmp.Or(cmp.Compare(a.Hash, b.Hash), cmp.Compare(a.Version, b.Version), cmp.Compare(a.Pos, b.Pos))
}

// laidOut is entries in order, each once.
func laidOut(l []api.Entry) []api.Entry {
	l = slices.Clone(l)
	slices.SortFunc(l, order)
	return slices.Compact(l)
}

// ranged and lastOf are what is to be told of sorted entries, found one by one.
func ranged(l []api.Entry, hash uint64, from, to int) []api.Entry {
	var kept []api.Entry
	for _, e := range l {
		if e.Hash == hash && from <= e.Version && e.Version <= to {
			kept = append(kept, e)
		}
	}
	return kept
}

func lastOf(l []api.Entry, hash uint64, upto int) (last api.Entry, ok bool) {
	for _, e := range l {
		if e.Hash == hash && e.Version <= upto {
			last, ok = e, true
		}
	}
	return last, ok
}

// has holds what a table says of all its entries against those that it is to have, in order.
func has(t *testing.T, what string, table *Table, want []api.Entry) {
	t.Helper()
	if n := table.Len(); n != len(want) {
		t.Fatalf("%s: Len is %d, not %d", what, n, len(want))
	}
	if l := table.Dump(); !slices.Equal(l, want) {
		t.Fatalf("%s: Dump is %s, not %s", what, show(l...), show(want...))
	}
}

// asks holds Range and Last against what they are to tell of those entries.
func asks(t *testing.T, table *Table, want []api.Entry, hash uint64, from, to int) {
	t.Helper()
	if l, all := table.Range(hash, from, to), ranged(want, hash, from, to); !slices.Equal(l, all) {
		t.Fatalf("Range of %d, %d, %d among %s: %s, not %s", hash, from, to, show(want...), show(l...), show(all...))
	}
	last, found := lastOf(want, hash, to)
	if e, ok := table.Last(hash, to); e != last || ok != found {
		t.Fatalf("Last of %d, %d among %s: %s, %v, not %s, %v", hash, to, show(want...), show(e), ok, show(last), found)
	}
}

// isBare holds a table against one that has nothing, whatever it is asked.
func isBare(t *testing.T, what string, table *Table) {
	t.Helper()
	has(t, what, table, nil)
	for _, hash := range []uint64{0, 1, 5, 7, math.MaxUint64} {
		asks(t, table, nil, hash, math.MinInt, math.MaxInt)
		asks(t, table, nil, hash, 0, 9)
		asks(t, table, nil, hash, 0, 0)
	}
}

// drawn is n entries of few hashes, versions and places: so some are there more than once.
func drawn(r *rand.Rand, n int) []api.Entry {
	l := make([]api.Entry, n)
	for i := range l {
		l[i] = at(uint64(r.Intn(4)), r.Intn(2+n/8)-1, r.Intn(6)-1)
	}
	return l
}

// edges is entries of numbers at both ends, of which many differ in one field alone.
func edges() []api.Entry {
	var l []api.Entry
	for _, h := range []uint64{0, 1, 1<<63 - 1, 1 << 63, math.MaxUint64} {
		for _, v := range []int{math.MinInt, -1, 0, 1, api.MaxVersion, math.MaxInt} {
			for _, p := range []int{math.MinInt, -1, 0, 1, math.MaxInt} {
				l = append(l, at(h, v, p))
			}
		}
	}
	return l
}

// P16.1

func TestNew(t *testing.T) {
	isBare(t, "a new table", New())
}

func TestAdd(t *testing.T) {
	table := New()
	for i, c := range []struct {
		e    api.Entry
		want bool
		n    int
	}{
		{at(5, 0, 12), true, 1},
		{at(3, 1, 40), true, 2},
		{at(5, 0, 12), false, 2},
		{at(3, 1, 40), false, 2},
		{at(5, 0, 11), true, 3},
		{at(5, 0, 13), true, 4},
		{at(5, 0, 12), false, 4},
		{at(5, 1, 12), true, 5},
		{at(4, 0, 12), true, 6},
		{at(9, 0, 12), true, 7},
		{api.Entry{}, true, 8},
		{api.Entry{}, false, 8},
		{at(0, -1, 0), true, 9},
		{at(0, 0, -1), true, 10},
		{at(0, -1, 0), false, 10},
	} {
		if ok := table.Add(c.e); ok != c.want || table.Len() != c.n {
			t.Errorf("Add %d, of %s: %v, and Len is %d", i, show(c.e), ok, table.Len())
		}
	}
}

func TestAddOfEdges(t *testing.T) {
	l := edges()
	r := rand.New(rand.NewSource(16))
	r.Shuffle(len(l), func(i, k int) { l[i], l[k] = l[k], l[i] })
	table := New()
	for i, e := range l {
		if !table.Add(e) || table.Len() != i+1 {
			t.Fatalf("Add %d, of %s: false, or Len is %d", i, show(e), table.Len())
		}
	}
	for _, e := range l {
		if table.Add(e) || table.Len() != len(l) {
			t.Fatalf("Add of %s, that is there: true, or Len is %d", show(e), table.Len())
		}
	}
	has(t, "edges", table, laidOut(l))
}

func TestAddAtEachPlace(t *testing.T) {
	for n := range 40 {
		for place := range n + 1 {
			table := New()
			var want []api.Entry
			for i := range n {
				table.Add(at(7, 2*i, i))
				want = append(want, at(7, 2*i, i))
			}
			e := at(7, 2*place-1, 99)
			if !table.Add(e) || table.Add(e) {
				t.Fatalf("Add at place %d of %d: false, or true once more", place, n)
			}
			has(t, "with one more", table, slices.Insert(want, place, e))
		}
	}
}

func TestAddOfMany(t *testing.T) {
	table := New()
	var want []api.Entry
	for i := range 20000 {
		e := at(7, i/2, 1000-i%2)
		want = append(want, e)
		if !table.Add(e) {
			t.Fatalf("Add of %s: false", show(e))
		}
	}
	has(t, "many", table, laidOut(want))
}

func TestTablesAreOfTheirOwn(t *testing.T) {
	a, b := New(), New()
	a.Add(at(1, 1, 1))
	isBare(t, "the other table", b)
	if !b.Add(at(1, 1, 1)) || !b.Add(at(0, 0, 0)) {
		t.Error("Add of what the other table has: false")
	}
	a.Clear()
	isBare(t, "the one that is cleared", a)
	has(t, "the one that is not", b, []api.Entry{at(0, 0, 0), at(1, 1, 1)})
}

func TestClear(t *testing.T) {
	for n := range 20 {
		table := New()
		for i := range n {
			table.Add(at(uint64(i%3), i, i))
		}
		table.Clear()
		isBare(t, "a table that is cleared", table)
		table.Clear()
		isBare(t, "a table that is cleared twice", table)
	}
}

func TestAddBehindClear(t *testing.T) {
	l := []api.Entry{at(1, 0, 12), at(3, 1, 40), at(5, 0, 12)}
	table := held(l...)
	table.Clear()
	for i, e := range l {
		if !table.Add(e) || table.Len() != i+1 {
			t.Errorf("Add of %s behind Clear: false, or Len is %d", show(e), table.Len())
		}
		if table.Add(e) {
			t.Errorf("Add of %s once more: true", show(e))
		}
	}
	has(t, "behind Clear", table, l)
}

// P16.2

func TestDump(t *testing.T) {
	table := held(at(5, 0, 12), at(3, 1, 40), at(5, 0, 12))
	has(t, "the chapter's example", table, []api.Entry{at(3, 1, 40), at(5, 0, 12)})
	table.Clear()
	if e, ok := table.Last(5, 9); e != (api.Entry{}) || ok {
		t.Errorf("Last behind Clear: %s, %v", show(e), ok)
	}
}

func TestDumpIsSorted(t *testing.T) {
	r := rand.New(rand.NewSource(161))
	for range 300 {
		l := drawn(r, r.Intn(80))
		table := held(l...)
		has(t, show(l...), table, laidOut(l))
		if !entries.Sorted(table.Dump()) {
			t.Fatalf("Dump is not sorted: %s", show(table.Dump()...))
		}
	}
}

func TestRangeAndLast(t *testing.T) {
	l := []api.Entry{at(1, 0, 12), at(1, 1, 30), at(1, 1, 50), at(3, 0, 70)}
	table := held(l[2], l[0], l[3], l[1])
	for _, c := range []struct {
		hash     uint64
		from, to int
		want     []api.Entry
		last     api.Entry
		ok       bool
	}{
		{1, 1, 5, l[1:3], l[2], true},
		{3, 1, 9, nil, l[3], true},
		{1, 0, 0, l[:1], l[0], true},
		{1, math.MinInt, math.MaxInt, l[:3], l[2], true},
		{1, 0, -1, nil, api.Entry{}, false},
		{1, 1, 0, nil, l[0], true},
		{1, math.MaxInt, math.MinInt, nil, api.Entry{}, false},
		{2, 0, 9, nil, api.Entry{}, false},
		{0, 0, 9, nil, api.Entry{}, false},
		{4, 0, 9, nil, api.Entry{}, false},
		{math.MaxUint64, 0, math.MaxInt, nil, api.Entry{}, false},
	} {
		if told := table.Range(c.hash, c.from, c.to); !slices.Equal(told, c.want) {
			t.Errorf("Range of %d, %d, %d: %s, not %s", c.hash, c.from, c.to, show(told...), show(c.want...))
		}
		if e, ok := table.Last(c.hash, c.to); e != c.last || ok != c.ok {
			t.Errorf("Last of %d, %d: %s, %v, not %s, %v", c.hash, c.to, show(e), ok, show(c.last), c.ok)
		}
	}
}

func TestRangeAndLastOfEdges(t *testing.T) {
	l := edges()
	slices.Reverse(l)
	table := held(l...)
	want := laidOut(l)
	numbers := []int{math.MinInt, math.MinInt + 1, -2, -1, 0, 1, 2, api.MaxVersion - 1, api.MaxVersion, api.MaxVersion + 1, math.MaxInt - 1, math.MaxInt}
	for _, hash := range []uint64{0, 1, 2, 1<<63 - 1, 1 << 63, 1<<63 + 1, math.MaxUint64 - 1, math.MaxUint64} {
		for _, from := range numbers {
			for _, to := range numbers {
				asks(t, table, want, hash, from, to)
			}
		}
	}
}

// TestRangeAndLastAreThoseOfEntries asks after each Add: so a table may be asked at any time.
func TestRangeAndLastAreThoseOfEntries(t *testing.T) {
	r := rand.New(rand.NewSource(162))
	for range 60 {
		table := New()
		for _, e := range drawn(r, 40) {
			table.Add(e)
			l := table.Dump()
			hash, from, to := uint64(r.Intn(5)), r.Intn(9)-2, r.Intn(9)-2
			asks(t, table, l, hash, from, to)
			if !slices.Equal(table.Range(hash, from, to), entries.Range(l, hash, from, to)) {
				t.Fatalf("Range of %d, %d, %d is not that of %s", hash, from, to, show(l...))
			}
			a, some := table.Last(hash, to)
			b, any := entries.Last(l, hash, to)
			if a != b || some != any {
				t.Fatalf("Last of %d, %d is not that of %s", hash, to, show(l...))
			}
		}
	}
}

// spoil lays another entry over all that a list has, and behind it, as far as its room goes.
func spoil(l []api.Entry) {
	l = l[:cap(l)]
	for i := range l {
		l[i] = at(77, 77, 77)
	}
}

func TestListsAreTheCallersOwn(t *testing.T) {
	for n := 1; n < 40; n++ {
		table := New()
		var want []api.Entry
		for i := range n {
			table.Add(at(1, i, i))
			want = append(want, at(1, i, i))
			spoil(table.Dump())
			spoil(table.Range(1, 0, n))
			spoil(table.Range(1, i, i))
		}
		has(t, "with lists that were changed", table, want)
	}
}

func TestListsStayAsTheyWere(t *testing.T) {
	table := New()
	var want []api.Entry
	var dumps, ranges [][]api.Entry
	for i := range 60 {
		e := at(1, (i*37)%60, i)
		table.Add(e)
		want = append(want, e)
		dumps = append(dumps, table.Dump())
		ranges = append(ranges, table.Range(1, 0, 60))
	}
	table.Clear()
	for i := range 60 {
		table.Add(at(0, i, i))
	}
	for i := range want {
		l := laidOut(want[:i+1])
		if !slices.Equal(dumps[i], l) || !slices.Equal(ranges[i], l) {
			t.Fatalf("lists that were told of %d entries: %s and %s, not %s", i+1, show(dumps[i]...), show(ranges[i]...), show(l...))
		}
	}
}

// P16.3

func TestTablesThatAreNone(t *testing.T) {
	var unset Table
	empty, full, cleared := New(), held(at(1, 0, 0), at(5, 0, 12)), held(at(1, 0, 0))
	cleared.Clear()
	emptyCopy, fullCopy, clearedCopy := *empty, *full, *cleared
	overlaid := held(at(2, 2, 2))
	*overlaid = *full
	reset := held(at(2, 2, 2))
	*reset = Table{}
	for what, table := range map[string]*Table{
		"nil": nil, "unset": &unset, "new(Table)": new(Table), "&Table{}": {},
		"a copy of an empty one": &emptyCopy, "a copy of a full one": &fullCopy, "a copy of a cleared one": &clearedCopy,
		"one with another one laid over": overlaid, "one with nothing laid over": reset,
	} {
		isBare(t, what, table)
		for _, e := range []api.Entry{{}, at(1, 0, 0), at(5, 0, 12), at(3, 3, 3)} {
			if table.Add(e) {
				t.Errorf("%s: Add of %s is true", what, show(e))
			}
		}
		isBare(t, what+", behind Add", table)
		table.Clear()
		isBare(t, what+", behind Clear", table)
		if table.Add(at(1, 0, 0)) {
			t.Errorf("%s: Add behind Clear is true", what)
		}
	}
	has(t, "the full one", full, []api.Entry{at(1, 0, 0), at(5, 0, 12)})
	if !full.Add(at(1, 1, 1)) || full.Add(at(5, 0, 12)) {
		t.Error("the full one is another one behind all that")
	}
	isBare(t, "the empty one", empty)
}

// TestClearOfACopy lays a copy back where it came from, so that what Clear did to it can be seen.
func TestClearOfACopy(t *testing.T) {
	table := held(at(1, 0, 0), at(5, 0, 12))
	c := *table
	c.Clear()
	c.Add(at(3, 3, 3))
	*table = c
	has(t, "the one that was laid back", table, []api.Entry{at(1, 0, 0), at(5, 0, 12)})
}

func TestMethodsOfNilDoNotPanic(t *testing.T) {
	var table *Table
	add, count, clear := table.Add, table.Len, table.Clear
	clear()
	if add(at(1, 1, 1)) || count() != 0 || table.Dump() != nil || table.Range(1, 0, 9) != nil {
		t.Error("nil has something")
	}
}

// P16.4

// orders calls with all orders of a list.
func orders(l []api.Entry, n int, call func(l []api.Entry)) {
	if n < 2 {
		call(l)
		return
	}
	for i := range n {
		l[i], l[n-1] = l[n-1], l[i]
		orders(l, n-1, call)
		l[i], l[n-1] = l[n-1], l[i]
	}
}

func TestAllOrders(t *testing.T) {
	l := []api.Entry{at(1, 0, 12), at(1, 1, 30), at(1, 1, 50), at(3, 0, 70), at(0, 9, 9), at(1<<63, 0, 0)}
	want := laidOut(l)
	orders(slices.Clone(l), len(l), func(l []api.Entry) {
		has(t, show(l...), held(l...), want)
	})
}

func TestHowOftenMakesNoDifference(t *testing.T) {
	l := []api.Entry{at(1, 0, 0), at(1, 0, 1), at(1, 1, 0), at(2, 0, 0)}
	for first := range l {
		for second := range l {
			for third := range l {
				added := append(slices.Clone(l), l[first], l[second], l[third])
				orders(added[2:], 5, func([]api.Entry) { has(t, show(added...), held(added...), l) })
			}
		}
	}
}

// TestWalks holds a table against a list in the test, through Adds and Clears.
func TestWalks(t *testing.T) {
	r := rand.New(rand.NewSource(164))
	for range 40 {
		table := New()
		var want []api.Entry
		for _, e := range drawn(r, 300) {
			if r.Intn(60) == 0 {
				table.Clear()
				want = nil
			}
			if ok := table.Add(e); ok == slices.Contains(want, e) {
				t.Fatalf("Add of %s to %s: %v", show(e), show(want...), ok)
			}
			want = laidOut(append(want, e))
			has(t, "a walk", table, want)
			asks(t, table, want, e.Hash, e.Version-1, e.Version+r.Intn(3)-1)
		}
	}
}

func TestBehindClearAsNew(t *testing.T) {
	r := rand.New(rand.NewSource(165))
	for range 100 {
		was, l := drawn(r, r.Intn(40)), drawn(r, r.Intn(40))
		old, fresh := held(was...), New()
		old.Clear()
		for _, e := range l {
			if old.Add(e) != fresh.Add(e) {
				t.Fatalf("Add of %s is another one behind Clear", show(e))
			}
		}
		has(t, "behind Clear", old, fresh.Dump())
		for hash := range uint64(5) {
			asks(t, old, fresh.Dump(), hash, 0, 3)
		}
	}
}

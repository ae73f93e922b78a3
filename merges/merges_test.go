package merges

import (
	"math"
	"math/rand"
	"slices"
	"strconv"
	"strings"
	"testing"

	"annalist/api"
	"annalist/entries"
	"annalist/memtable"
)

// at is an entry, shortly.
func at(hash uint64, version, pos int) api.Entry {
	return api.Entry{Hash: hash, Version: version, Pos: pos}
}

// of is entries by their versions, as the chapter's examples have them.
func of(versions ...int) []api.Entry {
	var l []api.Entry
	for _, v := range versions {
		l = append(l, at(0, v, 0))
	}
	return l
}

// show is entries as a failure tells them, no more than some of them; shown is lists.
func show(l []api.Entry) string {
	var b strings.Builder
	for i, e := range l {
		if i == 12 {
			return b.String() + ".. (" + strconv.Itoa(len(l)) + ")"
		}
		b.WriteString("[" + strconv.FormatUint(e.Hash, 10) + " " + strconv.Itoa(e.Version) + " " + strconv.Itoa(e.Pos) + "]")
	}
	return b.String()
}

func shown(lists [][]api.Entry) string {
	var l []string
	for i, one := range lists {
		if i == 8 {
			l = append(l, ".. ("+strconv.Itoa(len(lists))+")")
			break
		}
		l = append(l, show(one))
	}
	return strings.Join(l, "; ")
}

// order is the chapter's order of entries, in words of its own.
func order(a, b api.Entry) int {
	switch {
	case a == b:
		return 0
	case a.Hash < b.Hash,
		a.Hash == b.Hash && a.Version < b.Version,
		a.Hash == b.Hash && a.Version == b.Version && a.Pos < b.Pos:
		return -1
	}
	return 1
}

// laidOut is entries in order, each once.
func laidOut(l []api.Entry) []api.Entry {
	l = slices.Clone(l)
	slices.SortFunc(l, order)
	return slices.Compact(l)
}

// copied is lists whose entries no others share.
func copied(lists [][]api.Entry) [][]api.Entry {
	var all [][]api.Entry
	for _, l := range lists {
		all = append(all, slices.Clone(l))
	}
	return all
}

// firsts is the first ones that are left.
func firsts(left [][]api.Entry) []api.Entry {
	var l []api.Entry
	for _, one := range left {
		if len(one) > 0 {
			l = append(l, one[0])
		}
	}
	return l
}

// merged is the chapter's words, round by round: the least one of the first ones is taken away from each list, and told.
func merged(lists [][]api.Entry) []api.Entry {
	left := copied(lists)
	var told []api.Entry
	for len(firsts(left)) > 0 {
		e := slices.MinFunc(firsts(left), order)
		for i := range left {
			for len(left[i]) > 0 && left[i][0] == e {
				left[i] = left[i][1:]
			}
		}
		if len(told) == 0 || told[len(told)-1] != e {
			told = append(told, e)
		}
	}
	return told
}

// merges holds Merge of any lists against the chapter's words.
func merges(t *testing.T, lists ...[]api.Entry) {
	t.Helper()
	was := copied(lists)
	if told, want := Merge(lists), merged(was); !slices.Equal(told, want) {
		t.Fatalf("Merge of %s: %s, not %s", shown(was), show(told), show(want))
	}
	stay(t, lists, was)
}

// sorts holds Merge of sorted lists against all of their entries, in order, each once.
func sorts(t *testing.T, lists ...[]api.Entry) {
	t.Helper()
	merges(t, lists...)
	told := Merge(lists)
	if want := laidOut(slices.Concat(lists...)); !slices.Equal(told, want) || !entries.Sorted(told) {
		t.Fatalf("Merge of %s: %s, not %s", shown(lists), show(told), show(want))
	}
}

// stay tells a failure, if lists are others than they were.
func stay(t *testing.T, lists, was [][]api.Entry) {
	t.Helper()
	for i := range was {
		if !slices.Equal(lists[i], was[i]) {
			t.Fatalf("Merge changed %s: it is %s", shown(was), shown(lists))
		}
	}
}

// edges is entries of numbers at both ends, of which many differ in one field alone, in order.
func edges() []api.Entry {
	var l []api.Entry
	for _, h := range []uint64{0, 1, 1<<63 - 1, 1 << 63, math.MaxUint64} {
		for _, v := range []int{math.MinInt, -1, 0, 1, api.MaxVersion, math.MaxInt} {
			for _, p := range []int{math.MinInt, -1, 0, 1, math.MaxInt} {
				l = append(l, at(h, v, p))
			}
		}
	}
	return l
}

// drawn is n entries of few hashes, versions and places: so some are there more than once, and many differ in one field alone.
func drawn(r *rand.Rand, n int) []api.Entry {
	l := make([]api.Entry, n)
	for i := range l {
		l[i] = at(uint64(r.Intn(3)), r.Intn(2+n/8)-1, r.Intn(4)-1)
	}
	return l
}

// several is up to most lists of up to n drawn entries, as some function lays them.
func several(r *rand.Rand, most, n int, lay func([]api.Entry) []api.Entry) [][]api.Entry {
	var lists [][]api.Entry
	for range r.Intn(most + 1) {
		lists = append(lists, lay(drawn(r, r.Intn(n+1))))
	}
	return lists
}

// texts is all lists of up to n of the versions from 0 to below kinds, in any order, each as often as there is room.
func texts(n, kinds int) [][]api.Entry {
	all := [][]api.Entry{nil}
	for from := 0; n > 0; n-- {
		to := len(all)
		for ; from < to; from++ {
			for v := range kinds {
				all = append(all, append(slices.Clone(all[from]), at(0, v, 0)))
			}
		}
	}
	return all
}

// parts is all lists that some of the entries make, in their order.
func parts(l []api.Entry) [][]api.Entry {
	var all [][]api.Entry
	for choice := range 1 << len(l) {
		var some []api.Entry
		for i, e := range l {
			if choice>>i&1 == 1 {
				some = append(some, e)
			}
		}
		all = append(all, some)
	}
	return all
}

// P20.1

func TestMerge(t *testing.T) {
	for _, c := range []struct {
		lists [][]api.Entry
		want  []api.Entry
	}{
		{[][]api.Entry{of(1, 3, 5), of(2, 3), nil}, of(1, 2, 3, 5)},
		{[][]api.Entry{nil}, nil},
		{nil, nil},
		{[][]api.Entry{of(2, 1), of(2)}, of(2, 1)},
		{[][]api.Entry{of(2), of(2, 1)}, of(2, 1)},
		{[][]api.Entry{of(7)}, of(7)},
		{[][]api.Entry{of(1, 2, 3)}, of(1, 2, 3)},
		{[][]api.Entry{of(4, 5, 6), of(1, 2, 3)}, of(1, 2, 3, 4, 5, 6)},
		{[][]api.Entry{of(1, 4), of(2, 5), of(3, 6)}, of(1, 2, 3, 4, 5, 6)},
		{[][]api.Entry{of(1), of(1), of(1)}, of(1)},
		{[][]api.Entry{of(1, 9), of(1), of(1, 5), of(9)}, of(1, 5, 9)},
		{[][]api.Entry{of(0), of(-1), of(math.MaxInt), of(math.MinInt)}, of(math.MinInt, -1, 0, math.MaxInt)},
	} {
		if told := Merge(c.lists); !slices.Equal(told, c.want) {
			t.Errorf("Merge of %s: %s, not %s", shown(c.lists), show(told), show(c.want))
		}
	}
}

func TestMergeOfNothing(t *testing.T) {
	for _, lists := range [][][]api.Entry{nil, {}, {nil}, {{}}, {nil, {}, nil}, make([][]api.Entry, 1000), {of(1, 2)[:0]}} {
		if told := Merge(lists); len(told) != 0 {
			t.Errorf("Merge of %d lists of nothing: %s", len(lists), show(told))
		}
	}
}

// TestMergeAmongEmptyLists has nothing ahead of, between and behind lists of something.
func TestMergeAmongEmptyLists(t *testing.T) {
	want := of(1, 2, 3)
	for _, some := range [][2][]api.Entry{{of(1, 3), of(2)}, {of(2), of(1, 3)}, {of(1, 2), of(2, 3)}, {want, nil}} {
		for _, none := range [][]api.Entry{nil, {}} {
			a, b := some[0], some[1]
			for _, lists := range [][][]api.Entry{{a, b}, {none, a, b}, {a, none, b}, {a, b, none}, {none, none, a, none, none, b, none, none}} {
				if told := Merge(lists); !slices.Equal(told, want) {
					t.Errorf("Merge of %s: %s", shown(lists), show(told))
				}
			}
		}
	}
}

// TestMergeOfEntriesThatAreAlike has entries that only one field tells apart.
func TestMergeOfEntriesThatAreAlike(t *testing.T) {
	for _, c := range [][2]api.Entry{
		{at(1, 5, 5), at(2, 5, 5)},
		{at(1, 9, 9), at(2, 0, 0)},
		{at(5, 1, 5), at(5, 2, 5)},
		{at(5, 1, 9), at(5, 2, 0)},
		{at(5, 5, 1), at(5, 5, 2)},
		{at(1<<63-1, 0, 0), at(1<<63, 0, 0)},
		{at(0, 0, 0), at(math.MaxUint64, 0, 0)},
		{at(0, -1, 0), at(0, 0, 0)},
		{at(0, 0, -1), at(0, 0, 0)},
	} {
		a, b := c[0], c[1]
		for _, lists := range [][][]api.Entry{{{a}, {b}}, {{b}, {a}}, {{a, b}}, {{a, b}, {a}}, {{a, b}, {b}}, {{b}, {a, b}}, {{a, b}, {a, b}}} {
			if told := Merge(lists); !slices.Equal(told, []api.Entry{a, b}) {
				t.Errorf("Merge of %s: %s", shown(lists), show(told))
			}
		}
	}
}

func TestMergeOfTheSameList(t *testing.T) {
	l := of(1, 2, 5, 9)
	for n := 1; n < 50; n++ {
		if told := Merge(slices.Repeat([][]api.Entry{l}, n)); !slices.Equal(told, l) {
			t.Fatalf("Merge of %s, %d times: %s", show(l), n, show(told))
		}
	}
}

// TestMergeTellsAnEntryOnce has entries that stand there more than once in a row, in one list and in several.
func TestMergeTellsAnEntryOnce(t *testing.T) {
	for _, c := range []struct {
		lists [][]api.Entry
		want  []api.Entry
	}{
		{[][]api.Entry{of(2, 2)}, of(2)},
		{[][]api.Entry{of(2, 2, 2), of(2, 2)}, of(2)},
		{[][]api.Entry{of(1, 1, 2, 2, 3, 3), of(2, 2, 2, 4)}, of(1, 2, 3, 4)},
		{[][]api.Entry{make([]api.Entry, 500), make([]api.Entry, 3)}, of(0)},
	} {
		if told := Merge(c.lists); !slices.Equal(told, c.want) {
			t.Errorf("Merge of %s: %s, not %s", shown(c.lists), show(told), show(c.want))
		}
	}
}

// TestMergeOfListsThatAreNotSorted has what was told come again later, and what stands behind an entry come ahead of that entry's next one.
func TestMergeOfListsThatAreNotSorted(t *testing.T) {
	for _, c := range []struct {
		lists [][]api.Entry
		want  []api.Entry
	}{
		{[][]api.Entry{of(3, 2, 1)}, of(3, 2, 1)},
		{[][]api.Entry{of(2, 1, 2)}, of(2, 1, 2)},
		{[][]api.Entry{of(2, 1, 2), of(2)}, of(2, 1, 2)},
		{[][]api.Entry{of(2, 1, 2), of(1)}, of(1, 2, 1, 2)},
		{[][]api.Entry{of(3, 1), of(2)}, of(2, 3, 1)},
		{[][]api.Entry{of(3, 1), of(4, 2)}, of(3, 1, 4, 2)},
		{[][]api.Entry{of(2, 1), of(2, 3), of(2, 0)}, of(2, 0, 1, 3)},
		{[][]api.Entry{of(2, 2), of(2, 1)}, of(2, 1)},
		{[][]api.Entry{of(2, 1), of(2, 2)}, of(2, 1)},
		{[][]api.Entry{of(2, 2, 0), of(2, 1, 2), of(2)}, of(2, 0, 1, 2)},
		{[][]api.Entry{of(5, 5, 1, 5), of(5, 5, 5)}, of(5, 1, 5)},
	} {
		if told := Merge(c.lists); !slices.Equal(told, c.want) {
			t.Errorf("Merge of %s: %s, not %s", shown(c.lists), show(told), show(c.want))
		}
	}
}

// TestMergeOfAllShortLists has all lists of few entries, sorted or not.
func TestMergeOfAllShortLists(t *testing.T) {
	for _, l := range texts(6, 3) {
		merges(t, l)
	}
	pairs := texts(4, 3)
	for _, a := range pairs {
		for _, b := range pairs {
			merges(t, a, b)
		}
	}
	threes := texts(2, 3)
	for _, a := range threes {
		for _, b := range threes {
			for _, c := range threes {
				merges(t, a, b, c)
			}
		}
	}
}

func TestMergeOfNoise(t *testing.T) {
	r := rand.New(rand.NewSource(201))
	same := func(l []api.Entry) []api.Entry { return l }
	rising := func(l []api.Entry) []api.Entry { slices.SortFunc(l, order); return l }
	falling := func(l []api.Entry) []api.Entry { l = laidOut(l); slices.Reverse(l); return l }
	for range 3000 {
		merges(t, several(r, 6, 12, same)...)
		merges(t, several(r, 6, 30, rising)...)
		merges(t, several(r, 6, 12, falling)...)
	}
}

func TestMergeOfEdges(t *testing.T) {
	l := edges()
	for k := 1; k < 12; k++ {
		lists, back := make([][]api.Entry, k), make([][]api.Entry, k)
		for i, e := range l {
			lists[i%k] = append(lists[i%k], e)
			back[i%k] = append([]api.Entry{e}, back[i%k]...)
		}
		sorts(t, lists...)
		sorts(t, append(lists, l)...)
		merges(t, back...)
		merges(t, append(lists, back...)...)
	}
}

func TestMergeLeavesListsAsTheyWere(t *testing.T) {
	r := rand.New(rand.NewSource(202))
	for range 500 {
		memory := drawn(r, 60)
		was := slices.Clone(memory)
		lists := [][]api.Entry{memory[:10], memory[5:20], memory[20:20], memory[30:40:40], memory[:60], memory[40:50]}
		before := copied(lists)
		Merge(lists)
		stay(t, lists, before)
		Merge(lists[1:3])
		stay(t, lists, before)
		if !slices.Equal(memory, was) {
			t.Fatalf("Merge changed what stands behind lists: %s, not %s", show(memory), show(was))
		}
	}
}

// spoil lays another entry over all that a list has, and behind it, as far as its room goes.
func spoil(l []api.Entry) {
	l = l[:cap(l)]
	for i := range l {
		l[i] = at(77, 77, 77)
	}
}

func TestTheListIsTheCallersOwn(t *testing.T) {
	r := rand.New(rand.NewSource(203))
	for range 500 {
		lists := several(r, 4, 12, laidOut)
		lists = append(lists, of(1, 2, 3))
		was := copied(lists)
		told, want := Merge(lists), merged(was)
		spoil(Merge(lists))
		stay(t, lists, was)
		for i := range lists {
			spoil(lists[i])
			lists[i] = nil
		}
		if !slices.Equal(told, want) {
			t.Fatalf("Merge of %s is changed with them: %s", shown(was), show(told))
		}
		if again := Merge(was); !slices.Equal(again, want) {
			t.Fatalf("Merge of %s, once more: %s, not %s", shown(was), show(again), show(want))
		}
	}
}

// TestTheListOfOneIsTheCallersOwn has lists that could be handed out as they are.
func TestTheListOfOneIsTheCallersOwn(t *testing.T) {
	for n := range 20 {
		var l []api.Entry
		for i := range n {
			l = append(l, at(1, i, i))
		}
		was := slices.Clone(l)
		for _, lists := range [][][]api.Entry{{l}, {l, nil}, {nil, l}, {l, l}} {
			spoil(Merge(lists))
			if !slices.Equal(l, was) {
				t.Fatalf("Merge of %s tells that list itself", show(was))
			}
		}
	}
}

// P20.2

func TestSortedListsAreToldSorted(t *testing.T) {
	r := rand.New(rand.NewSource(204))
	for range 3000 {
		sorts(t, several(r, 8, 40, laidOut)...)
	}
	all := parts([]api.Entry{at(1, 0, 12), at(1, 0, 13), at(1, 1, 0), at(2, 0, 0), at(1<<63, 0, 0)})
	for _, a := range all {
		for _, b := range all {
			sorts(t, a, b)
			sorts(t, a, b, all[len(all)-1])
			sorts(t, a, b, all[21], all[10])
		}
	}
}

// TestManyListsAndLongOnes has as many as an index has tables, and more, and as long ones as a disk has room for.
func TestManyListsAndLongOnes(t *testing.T) {
	r := rand.New(rand.NewSource(205))
	for _, c := range []struct{ lists, entries int }{{1, 40000}, {2, 20000}, {api.MaxTables, 1000}, {1000, 20}, {2000, 1}} {
		lists := make([][]api.Entry, c.lists)
		for i := range c.lists * c.entries {
			k := r.Intn(c.lists)
			lists[k] = append(lists[k], at(uint64(i/50), i%50, i))
		}
		want := laidOut(slices.Concat(lists...))
		if told := Merge(lists); !slices.Equal(told, want) {
			t.Errorf("Merge of %d lists with %d entries: %s", c.lists, c.lists*c.entries, show(told))
		}
		lists = append(lists, want, lists[0])
		if told := Merge(lists); !slices.Equal(told, want) {
			t.Errorf("Merge of %d lists with %d entries, and all of them: %s", c.lists, c.lists*c.entries, show(told))
		}
	}
}

// orders calls with all orders of lists.
func orders(lists [][]api.Entry, n int, call func(lists [][]api.Entry)) {
	if n < 2 {
		call(lists)
		return
	}
	for i := range n {
		lists[i], lists[n-1] = lists[n-1], lists[i]
		orders(lists, n-1, call)
		lists[i], lists[n-1] = lists[n-1], lists[i]
	}
}

func TestAllOrdersOfLists(t *testing.T) {
	r := rand.New(rand.NewSource(206))
	for range 60 {
		lists := several(r, 5, 20, laidOut)
		want := Merge(lists)
		orders(slices.Clone(lists), len(lists), func(lists [][]api.Entry) {
			if told := Merge(lists); !slices.Equal(told, want) {
				t.Fatalf("Merge of %s: %s, not %s", shown(lists), show(told), show(want))
			}
		})
	}
}

// TestMergedAheadMakesNoDifference merges some lists first, and what that tells with the others.
func TestMergedAheadMakesNoDifference(t *testing.T) {
	r := rand.New(rand.NewSource(207))
	for range 300 {
		lists := several(r, 6, 20, laidOut)
		want := Merge(lists)
		for choice := range 1 << len(lists) {
			var some, others [][]api.Entry
			for i, l := range lists {
				if choice>>i&1 == 1 {
					some = append(some, l)
				} else {
					others = append(others, l)
				}
			}
			for _, ahead := range [][][]api.Entry{
				append([][]api.Entry{Merge(some)}, others...),
				append(slices.Clone(others), Merge(some)),
				{Merge(some), Merge(others)},
				append(slices.Clone(lists), Merge(some)),
			} {
				if told := Merge(ahead); !slices.Equal(told, want) {
					t.Fatalf("Merge of %s: %s, not %s", shown(ahead), show(told), show(want))
				}
			}
		}
		var one []api.Entry
		for _, l := range lists {
			one = Merge([][]api.Entry{one, l})
		}
		if !slices.Equal(one, want) {
			t.Fatalf("Merge of %s, one by one: %s, not %s", shown(lists), show(one), show(want))
		}
	}
}

// TestMergeIsAMemtablesDump holds it against a table in memory that all entries are added to.
func TestMergeIsAMemtablesDump(t *testing.T) {
	r := rand.New(rand.NewSource(208))
	for range 300 {
		lists := several(r, 6, 40, laidOut)
		table := memtable.New()
		for _, l := range lists {
			for _, e := range l {
				table.Add(e)
			}
		}
		if told, want := Merge(lists), table.Dump(); !slices.Equal(told, want) {
			t.Fatalf("Merge of %s: %s, not %s", shown(lists), show(told), show(want))
		}
	}
}

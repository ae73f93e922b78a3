package levels

import (
	"math"
	"math/rand"
	"slices"
	"strconv"
	"strings"
	"testing"

	"annalist/api"
)

// show is levels as a failure tells them; shown is a list.
func show(l [][]int) string {
	var levels []string
	for i, level := range l {
		if i == 12 {
			levels = append(levels, ".. ("+strconv.Itoa(len(l))+")")
			break
		}
		levels = append(levels, shown(level))
	}
	return "[" + strings.Join(levels, " / ") + "]"
}

func shown(l []int) string {
	var numbers []string
	for i, n := range l {
		if i == 50 {
			numbers = append(numbers, ".. ("+strconv.Itoa(len(l))+")")
			break
		}
		numbers = append(numbers, strconv.Itoa(n))
	}
	return strings.Join(numbers, " ")
}

// alike tells whether levels are the same, level by level, as many of them.
func alike(a, b [][]int) bool {
	return slices.EqualFunc(a, b, slices.Equal[[]int])
}

// taken is levels whose lists no others share.
func taken(l [][]int) [][]int {
	var m [][]int
	for _, level := range l {
		m = append(m, append([]int(nil), level...))
	}
	return m
}

// stand is a table's number, and its level: the levels are written down anew from these, for the chapter's words in words of the tests' own.
type stand struct{ level, n int }

// stands is where the tables stand, level by level.
func stands(l [][]int) []stand {
	var s []stand
	for level, numbers := range l {
		for _, n := range numbers {
			s = append(s, stand{level, n})
		}
	}
	return s
}

// numbers is the tables' numbers.
func numbers(s []stand) []int {
	var l []int
	for _, one := range s {
		l = append(l, one.n)
	}
	return l
}

// written is levels by where tables stand: there is none behind the last one that has a table.
func written(s []stand) [][]int {
	deepest := -1
	for _, one := range s {
		deepest = max(deepest, one.level)
	}
	l := make([][]int, deepest+1)
	for _, one := range s {
		l[one.level] = append(l[one.level], one.n)
	}
	return l
}

// mayBe is the chapter's words of levels that may be.
func mayBe(l [][]int) bool {
	s := stands(l)
	if len(l) > 5 || len(s) > 40 {
		return false
	}
	for i, one := range s {
		if one.n < 0 {
			return false
		}
		for _, other := range s[:i] {
			if other.n == one.n {
				return false
			}
		}
	}
	return true
}

// added, picked and replaced are the chapter's words of Add, Pick and Replace.
func added(l [][]int, n int) ([][]int, api.Errno) {
	s := stands(l)
	switch {
	case !mayBe(l), n < 0, slices.Contains(numbers(s), n):
		return nil, api.ErrArg
	case len(s) == 40:
		return nil, api.ErrFull
	}
	return written(append(s, stand{0, n})), api.OK
}

func picked(l [][]int, level int) ([]int, api.Errno) {
	if !mayBe(l) || level < 0 || level > 4 {
		return nil, api.ErrArg
	}
	others := slices.DeleteFunc(stands(l), func(one stand) bool { return one.level != level })
	if len(others) == 0 {
		return nil, api.ErrNone
	}
	return numbers(others), api.OK
}

func replaced(l [][]int, level, n int) ([][]int, api.Errno) {
	if _, e := picked(l, level); e != api.OK {
		return nil, e
	}
	s := stands(l)
	if n < 0 || slices.Contains(numbers(s), n) {
		return nil, api.ErrArg
	}
	s = slices.DeleteFunc(s, func(one stand) bool { return one.level == level })
	if level == 4 {
		return written(append(s, stand{4, n})), api.OK
	}
	return written(append(s, stand{level + 1, n})), api.OK
}

// valid, adds, picks and replaces hold the calls against these words, and what was handed in against what it was.
func valid(t *testing.T, l [][]int) {
	t.Helper()
	was := taken(l)
	if ok := Valid(l); ok != mayBe(was) {
		t.Fatalf("Valid of %s: %v", show(was), ok)
	}
	if all, want := All(l), numbers(stands(was)); !slices.Equal(all, want) {
		t.Fatalf("All of %s: %s", show(was), shown(all))
	}
	stay(t, l, was)
}

func adds(t *testing.T, l [][]int, n int) {
	t.Helper()
	was := taken(l)
	want, wanted := added(was, n)
	if told, e := Add(l, n); !alike(told, want) || e != wanted {
		t.Fatalf("Add of %s, %d: %s, %v, not %s, %v", show(was), n, show(told), e, show(want), wanted)
	}
	stay(t, l, was)
}

func picks(t *testing.T, l [][]int, level int) {
	t.Helper()
	was := taken(l)
	want, wanted := picked(was, level)
	if told, e := Pick(l, level); !slices.Equal(told, want) || e != wanted {
		t.Fatalf("Pick of %s, level %d: %s, %v, not %s, %v", show(was), level, shown(told), e, shown(want), wanted)
	}
	stay(t, l, was)
}

func replaces(t *testing.T, l [][]int, level, n int) {
	t.Helper()
	was := taken(l)
	want, wanted := replaced(was, level, n)
	if told, e := Replace(l, level, n); !alike(told, want) || e != wanted {
		t.Fatalf("Replace of %s, level %d, %d: %s, %v, not %s, %v", show(was), level, n, show(told), e, show(want), wanted)
	}
	stay(t, l, was)
}

// stay tells a failure, if levels are others than they were.
func stay(t *testing.T, l, was [][]int) {
	t.Helper()
	if !alike(l, was) {
		t.Fatalf("levels are changed: %s, not %s", show(l), show(was))
	}
}

// texts is all lists of up to n numbers from a first one to below another one, in any order, each as often as there is room.
func texts(n, from, to int) [][]int {
	all := [][]int{nil}
	for at := 0; n > 0; n-- {
		end := len(all)
		for ; at < end; at++ {
			for v := from; v < to; v++ {
				all = append(all, append(slices.Clone(all[at]), v))
			}
		}
	}
	return all
}

// each calls with all levels whose lists are some of these, n of them.
func each(lists [][]int, n int, call func(l [][]int)) {
	l := make([][]int, n)
	var fill func(i int)
	fill = func(i int) {
		if i == n {
			call(l)
			return
		}
		for _, one := range lists {
			l[i] = one
			fill(i + 1)
		}
	}
	fill(0)
}

// drawn is levels with so many tables, as a disk could have them: no number is there twice.
func drawn(r *rand.Rand, levels, tables int) [][]int {
	l := make([][]int, levels)
	for _, n := range r.Perm(tables * 2)[:tables] {
		i := r.Intn(levels)
		l[i] = append(l[i], n)
	}
	return l
}

// row is so many numbers, from one on.
func row(from, n int) []int {
	var l []int
	for i := range n {
		l = append(l, from+i)
	}
	return l
}

// full is as many tables as there may be, in so many levels.
func full(levels int) [][]int {
	var l [][]int
	for i := range levels {
		from := i * 40 / levels
		l = append(l, row(from, (i+1)*40/levels-from))
	}
	return l
}

// spoil lays another number over all that lists have, and behind it, as far as their room goes.
func spoil(lists ...[]int) {
	for _, l := range lists {
		l = l[:cap(l)]
		for i := range l {
			l[i] = -77
		}
	}
}

// P21.1

func TestValid(t *testing.T) {
	for _, c := range []struct {
		l    [][]int
		want bool
	}{
		{nil, true},
		{[][]int{}, true},
		{[][]int{nil}, true},
		{[][]int{{}, {}, {}, {}, {}}, true},
		{[][]int{{}, {}, {}, {}, {}, {}}, false},
		{make([][]int, 5), true},
		{make([][]int, 6), false},
		{make([][]int, 10000), false},
		{[][]int{{1}, {2}, {3}, {4}, {5}}, true},
		{[][]int{{1}, {2}, {3}, {4}, {5}, {}}, false},
		{[][]int{{1}, {2}, {3}, {4}, {5}, {6}}, false},
		{[][]int{{0}}, true},
		{[][]int{{-1}}, false},
		{[][]int{{math.MaxInt}, {math.MaxInt - 1}}, true},
		{[][]int{{math.MinInt}}, false},
		{[][]int{{3, 1, 2}}, true},
		{[][]int{{3, 4}, {1}, nil, {2}}, true},
		{[][]int{{3, 4}, {1}, {-2}}, false},
		{[][]int{nil, nil, nil, nil, {5, 6, -1}}, false},
		{[][]int{{1, 1}}, false},
		{[][]int{{1, 2, 1}}, false},
		{[][]int{{1}, {1}}, false},
		{[][]int{{0, 3}, nil, nil, nil, {4, 0}}, false},
		{[][]int{{math.MaxInt, math.MaxInt}}, false},
		{[][]int{row(0, 40)}, true},
		{[][]int{row(0, 41)}, false},
		{[][]int{nil, nil, nil, nil, row(100, 40)}, true},
		{[][]int{nil, nil, nil, nil, row(100, 41)}, false},
		{[][]int{row(0, 39), {39}}, true},
		{[][]int{row(0, 39), {39, 40}}, false},
		{[][]int{row(0, 40), nil, {40}}, false},
		{[][]int{row(0, 39), {38}}, false},
		{[][]int{row(0, 20), row(20, 5), row(25, 5), row(30, 5), row(35, 5)}, true},
		{[][]int{row(0, 20), row(20, 5), row(25, 5), row(30, 5), row(35, 6)}, false},
		{[][]int{slices.Repeat([]int{0}, 100000)}, false},
		{[][]int{row(0, 100000)}, false},
	} {
		if ok := Valid(c.l); ok != c.want {
			t.Errorf("Valid of %s: %v", show(c.l), ok)
		}
	}
}

// TestOneNumberMakesLevelsNone has, at each place of levels that may be, one that is below 0, or another place's.
func TestOneNumberMakesLevelsNone(t *testing.T) {
	for levels := 1; levels <= 5; levels++ {
		l := full(levels)
		if !Valid(l) {
			t.Fatalf("Valid of %s: false", show(l))
		}
		for i := range l {
			for k := range l[i] {
				was := l[i][k]
				for _, n := range []int{-1, math.MinInt, (was + 1) % 40, (was + 39) % 40, (was + 17) % 40} {
					l[i][k] = n
					if Valid(l) {
						t.Fatalf("Valid of %s: true", show(l))
					}
				}
				for _, n := range []int{was, 40, math.MaxInt} {
					l[i][k] = n
					if !Valid(l) {
						t.Fatalf("Valid of %s: false", show(l))
					}
				}
				l[i][k] = was
			}
		}
	}
}

func TestAll(t *testing.T) {
	for _, c := range []struct {
		l    [][]int
		want []int
	}{
		{nil, nil},
		{[][]int{}, nil},
		{[][]int{nil, {}, nil}, nil},
		{[][]int{{3, 4}, {5}}, []int{3, 4, 5}},
		{[][]int{{5}, {3, 4}}, []int{5, 3, 4}},
		{[][]int{nil, {9, 2, 7}, nil, {1}, nil}, []int{9, 2, 7, 1}},
		{[][]int{{0}, {1}, {2}, {3}, {4}}, []int{0, 1, 2, 3, 4}},
		{full(5), row(0, 40)},
	} {
		if all := All(c.l); !slices.Equal(all, c.want) {
			t.Errorf("All of %s: %s", show(c.l), shown(all))
		}
	}
}

// TestAllOfLevelsThatMayNotBe has the numbers told as they are.
func TestAllOfLevelsThatMayNotBe(t *testing.T) {
	for _, c := range []struct {
		l    [][]int
		want []int
	}{
		{make([][]int, 1000), nil},
		{[][]int{{1, 1}, {-1}, {1}}, []int{1, 1, -1, 1}},
		{[][]int{{6}, {5}, {4}, {3}, {2}, {1}, {0}}, []int{6, 5, 4, 3, 2, 1, 0}},
		{[][]int{row(0, 30), row(30, 30)}, row(0, 60)},
		{[][]int{row(-5, 10000)}, row(-5, 10000)},
	} {
		if all := All(c.l); !slices.Equal(all, c.want) {
			t.Errorf("All of %s: %s", show(c.l), shown(all))
		}
	}
}

// P21.2

func TestAdd(t *testing.T) {
	for _, c := range []struct {
		l    [][]int
		n    int
		want [][]int
	}{
		{nil, 3, [][]int{{3}}},
		{[][]int{}, 0, [][]int{{0}}},
		{[][]int{nil}, 3, [][]int{{3}}},
		{[][]int{{3}}, 4, [][]int{{3, 4}}},
		{[][]int{{4}}, 3, [][]int{{4, 3}}},
		{[][]int{{3, 4}, {5}}, 6, [][]int{{3, 4, 6}, {5}}},
		{[][]int{nil, {5}}, 0, [][]int{{0}, {5}}},
		{[][]int{{}, nil, {5}}, math.MaxInt, [][]int{{math.MaxInt}, nil, {5}}},
		{[][]int{{1}, {2}, {3}, {4}, {5}}, 6, [][]int{{1, 6}, {2}, {3}, {4}, {5}}},
		{[][]int{nil, nil, nil, nil, {5}}, 6, [][]int{{6}, nil, nil, nil, {5}}},
		{[][]int{row(0, 39)}, 39, [][]int{row(0, 40)}},
		{[][]int{nil, row(0, 39)}, 39, [][]int{{39}, row(0, 39)}},
	} {
		if told, e := Add(c.l, c.n); !alike(told, c.want) || e != api.OK {
			t.Errorf("Add of %s, %d: %s, %v", show(c.l), c.n, show(told), e)
		}
	}
}

// TestAddLeavesNoEmptyLevelsAtTheEnd has those between others stay.
func TestAddLeavesNoEmptyLevelsAtTheEnd(t *testing.T) {
	for _, c := range []struct {
		l    [][]int
		want [][]int
	}{
		{make([][]int, 5), [][]int{{9}}},
		{[][]int{{}, {}, {}}, [][]int{{9}}},
		{[][]int{{1}, {}}, [][]int{{1, 9}}},
		{[][]int{{1}, nil, {}, nil, {}}, [][]int{{1, 9}}},
		{[][]int{nil, {}, {2}, {}, nil}, [][]int{{9}, nil, {2}}},
		{[][]int{{1}, {2}, nil, {3}, {}}, [][]int{{1, 9}, {2}, nil, {3}}},
	} {
		told, e := Add(c.l, 9)
		if !alike(told, c.want) || len(told) != len(c.want) || e != api.OK {
			t.Errorf("Add of %s, 9: %s, %v", show(c.l), show(told), e)
		}
	}
}

func TestAddErrors(t *testing.T) {
	for _, c := range []struct {
		l    [][]int
		n    int
		want api.Errno
	}{
		{nil, -1, api.ErrArg},
		{nil, math.MinInt, api.ErrArg},
		{[][]int{{3}}, 3, api.ErrArg},
		{[][]int{{3, 4}, {5}}, 4, api.ErrArg},
		{[][]int{{3, 4}, {5}}, 5, api.ErrArg},
		{[][]int{nil, nil, nil, nil, {0}}, 0, api.ErrArg},
		{[][]int{{1, 1}}, 2, api.ErrArg},
		{[][]int{{1}, {1}}, 2, api.ErrArg},
		{[][]int{{-1}}, 2, api.ErrArg},
		{make([][]int, 6), 2, api.ErrArg},
		{[][]int{row(0, 41)}, 100, api.ErrArg},
		{[][]int{row(0, 40)}, 40, api.ErrFull},
		{[][]int{nil, nil, nil, nil, row(0, 40)}, 40, api.ErrFull},
		{full(5), 40, api.ErrFull},
		{full(5), math.MaxInt, api.ErrFull},
		{full(5), -1, api.ErrArg},
		{full(5), 0, api.ErrArg},
		{full(5), 39, api.ErrArg},
		{append(full(5), nil), 40, api.ErrArg},
	} {
		if told, e := Add(c.l, c.n); told != nil || e != c.want {
			t.Errorf("Add of %s, %d: %s, %v", show(c.l), c.n, show(told), e)
		}
	}
}

// P21.3

func TestPick(t *testing.T) {
	l := [][]int{{3, 4}, {5}, nil, {9, 0, 7}}
	for level, want := range [][]int{{3, 4}, {5}, nil, {9, 0, 7}, nil} {
		wanted := api.OK
		if want == nil {
			wanted = api.ErrNone
		}
		if told, e := Pick(l, level); !slices.Equal(told, want) || e != wanted {
			t.Errorf("Pick of %s, level %d: %s, %v", show(l), level, shown(told), e)
		}
	}
	for levels := 1; levels <= 5; levels++ {
		l := full(levels)
		for level := range l {
			if told, e := Pick(l, level); !slices.Equal(told, l[level]) || e != api.OK {
				t.Errorf("Pick of %s, level %d: %s, %v", show(l), level, shown(told), e)
			}
		}
	}
}

func TestPickErrors(t *testing.T) {
	for _, c := range []struct {
		l     [][]int
		level int
		want  api.Errno
	}{
		{nil, 0, api.ErrNone},
		{nil, 4, api.ErrNone},
		{nil, 5, api.ErrArg},
		{nil, -1, api.ErrArg},
		{[][]int{nil, {5, 6}}, 0, api.ErrNone},
		{[][]int{{}, {5, 6}}, 0, api.ErrNone},
		{[][]int{{1}}, 1, api.ErrNone},
		{[][]int{{1}, {}}, 1, api.ErrNone},
		{[][]int{{1}}, 4, api.ErrNone},
		{[][]int{{1}}, 5, api.ErrArg},
		{[][]int{{1}}, -1, api.ErrArg},
		{[][]int{{1}}, math.MaxInt, api.ErrArg},
		{[][]int{{1}}, math.MinInt, api.ErrArg},
		{[][]int{{1}, {2}, {3}, {4}, {5}}, 5, api.ErrArg},
		{[][]int{{1}, {2}, {3}, {4}, {5}, {6}}, 5, api.ErrArg},
		{[][]int{{1}, {2}, {3}, {4}, {5}, {6}}, 0, api.ErrArg},
		{make([][]int, 6), 0, api.ErrArg},
		{[][]int{{1, 1}}, 0, api.ErrArg},
		{[][]int{{1}, nil, {1}}, 1, api.ErrArg},
		{[][]int{{1}, {-1}}, 0, api.ErrArg},
		{[][]int{nil, {-1}}, 0, api.ErrArg},
		{[][]int{row(0, 41)}, 0, api.ErrArg},
	} {
		if told, e := Pick(c.l, c.level); told != nil || e != c.want {
			t.Errorf("Pick of %s, level %d: %s, %v", show(c.l), c.level, shown(told), e)
		}
	}
}

// P21.4

func TestReplace(t *testing.T) {
	for _, c := range []struct {
		l        [][]int
		level, n int
		want     [][]int
	}{
		{[][]int{{3, 4}, {5}}, 0, 6, [][]int{nil, {5, 6}}},
		{[][]int{{3, 4}, {5}}, 1, 6, [][]int{{3, 4}, nil, {6}}},
		{[][]int{{0, 1}}, 0, 2, [][]int{nil, {2}}},
		{[][]int{{5}}, 0, 0, [][]int{nil, {0}}},
		{[][]int{{1}, {2}, {3}, {4}, {5}}, 0, 6, [][]int{nil, {2, 6}, {3}, {4}, {5}}},
		{[][]int{{1}, {2}, {3}, {4}, {5}}, 1, 6, [][]int{{1}, nil, {3, 6}, {4}, {5}}},
		{[][]int{{1}, {2}, {3}, {4}, {5}}, 2, 6, [][]int{{1}, {2}, nil, {4, 6}, {5}}},
		{[][]int{{1}, {2}, {3}, {4}, {5}}, 3, 6, [][]int{{1}, {2}, {3}, nil, {5, 6}}},
		{[][]int{{1}, {2}, {3}, {4}, {5}}, 4, 6, [][]int{{1}, {2}, {3}, {4}, {6}}},
		{[][]int{nil, nil, nil, nil, {5, 6, 7}}, 4, 0, [][]int{nil, nil, nil, nil, {0}}},
		{[][]int{nil, nil, nil, {5, 6, 7}}, 3, math.MaxInt, [][]int{nil, nil, nil, nil, {math.MaxInt}}},
		{[][]int{row(0, 40)}, 0, 40, [][]int{nil, {40}}},
		{[][]int{{0}, row(1, 39)}, 0, 40, [][]int{nil, append(row(1, 39), 40)}},
		{[][]int{nil, nil, nil, nil, row(0, 40)}, 4, 40, [][]int{nil, nil, nil, nil, {40}}},
	} {
		if told, e := Replace(c.l, c.level, c.n); !alike(told, c.want) || e != api.OK {
			t.Errorf("Replace of %s, level %d, %d: %s, %v", show(c.l), c.level, c.n, show(told), e)
		}
	}
}

// TestReplaceLeavesNoEmptyLevelsAtTheEnd has the level that is emptied stay ahead of the next one.
func TestReplaceLeavesNoEmptyLevelsAtTheEnd(t *testing.T) {
	for _, c := range []struct {
		l     [][]int
		level int
		want  [][]int
	}{
		{[][]int{{1}, nil}, 0, [][]int{nil, {9}}},
		{[][]int{{1}, {}, nil, {}, nil}, 0, [][]int{nil, {9}}},
		{[][]int{{1}, {2}, {}, {}}, 0, [][]int{nil, {2, 9}}},
		{[][]int{{1}, {2}, {}, {}, {}}, 1, [][]int{{1}, nil, {9}}},
		{[][]int{{}, {2}, {}, {3}, {}}, 1, [][]int{nil, nil, {9}, {3}}},
		{[][]int{{}, nil, {2}, {}, {}}, 2, [][]int{nil, nil, nil, {9}}},
	} {
		told, e := Replace(c.l, c.level, 9)
		if !alike(told, c.want) || len(told) != len(c.want) || e != api.OK {
			t.Errorf("Replace of %s, level %d, 9: %s, %v", show(c.l), c.level, show(told), e)
		}
	}
}

func TestReplaceErrors(t *testing.T) {
	for _, c := range []struct {
		l        [][]int
		level, n int
		want     api.Errno
	}{
		{nil, 0, 1, api.ErrNone},
		{[][]int{nil, {5, 6}}, 0, 7, api.ErrNone},
		{[][]int{{5, 6}}, 1, 7, api.ErrNone},
		{[][]int{{5, 6}, {}}, 1, 7, api.ErrNone},
		{[][]int{{5, 6}}, 4, 7, api.ErrNone},
		{[][]int{{5, 6}}, 5, 7, api.ErrArg},
		{[][]int{{5, 6}}, -1, 7, api.ErrArg},
		{[][]int{{5, 6}}, math.MaxInt, 7, api.ErrArg},
		{[][]int{{5, 6}}, math.MinInt, 7, api.ErrArg},
		{[][]int{{5, 6}}, 0, -1, api.ErrArg},
		{[][]int{{5, 6}}, 0, math.MinInt, api.ErrArg},
		{[][]int{{5, 6}}, 0, 5, api.ErrArg},
		{[][]int{{5, 6}}, 0, 6, api.ErrArg},
		{[][]int{{5, 6}, {7}}, 0, 7, api.ErrArg},
		{[][]int{{5, 6}, {7}}, 1, 5, api.ErrArg},
		{[][]int{{5}, nil, nil, nil, {7}}, 4, 7, api.ErrArg},
		{[][]int{{5}, nil, nil, nil, {7}}, 0, 7, api.ErrArg},
		{[][]int{{5, 5}}, 0, 7, api.ErrArg},
		{[][]int{{5}, {-1}}, 0, 7, api.ErrArg},
		{append(full(5), nil), 0, 100, api.ErrArg},
		{[][]int{row(0, 41)}, 0, 100, api.ErrArg},
		{full(5), 0, 3, api.ErrArg},
		{full(5), 4, 3, api.ErrArg},
	} {
		if told, e := Replace(c.l, c.level, c.n); told != nil || e != c.want {
			t.Errorf("Replace of %s, level %d, %d: %s, %v", show(c.l), c.level, c.n, show(told), e)
		}
	}
}

// TestReplaceTellsPicksErrorFirst has numbers that may not come as well.
func TestReplaceTellsPicksErrorFirst(t *testing.T) {
	for _, n := range []int{-1, math.MinInt, 5, 6} {
		for level := 1; level < 5; level++ {
			if told, e := Replace([][]int{{5, 6}}, level, n); told != nil || e != api.ErrNone {
				t.Errorf("Replace of [5 6], level %d, %d: %s, %v", level, n, show(told), e)
			}
		}
	}
}

// All calls, held against the chapter's words.

func TestAllShortLevels(t *testing.T) {
	for levels, lists := range [][][]int{nil, texts(3, -1, 4), texts(2, -1, 4), texts(2, 0, 3), texts(1, 0, 3), texts(1, 0, 3), texts(1, 0, 2)} {
		each(lists, levels, func(l [][]int) {
			valid(t, l)
			for n := -1; n < 5; n++ {
				adds(t, l, n)
			}
			for level := -1; level < 7; level++ {
				picks(t, l, level)
				for n := -1; n < 5; n++ {
					replaces(t, l, level, n)
				}
			}
		})
	}
}

func TestNoise(t *testing.T) {
	r := rand.New(rand.NewSource(211))
	for range 5000 {
		l := drawn(r, 1+r.Intn(6), r.Intn(43))
		if r.Intn(4) == 0 {
			k := r.Intn(len(l))
			l[k] = append(l[k], r.Intn(90)-5)
		}
		valid(t, l)
		level, n := r.Intn(7)-1, r.Intn(90)-5
		adds(t, l, n)
		picks(t, l, level)
		replaces(t, l, level, n)
	}
}

// The lists that are told, and those that are handed in.

// TestLevelsThatShareMemory has each level stand right ahead of the next one, with room behind it that is the next one's.
func TestLevelsThatShareMemory(t *testing.T) {
	memory := row(0, 30)
	l := [][]int{memory[:3], memory[3:5], memory[5:5], memory[5:9], memory[9:12]}
	valid(t, l)
	adds(t, l, 50)
	adds(t, l, 7)
	for level := range 5 {
		picks(t, l, level)
		replaces(t, l, level, 50)
		replaces(t, l, level, 3)
	}
	if !slices.Equal(memory, row(0, 30)) {
		t.Errorf("what stands behind levels is changed: %s", shown(memory))
	}
	levels := make([][]int, 5, 8)
	copy(levels, l)
	for range 3 {
		Add(levels[:1], 50)
		Replace(levels[:1], 0, 50)
		Replace(levels[:4], 3, 50)
		Replace(levels[:4], 1, 50)
	}
	stay(t, levels, l)
}

// TestAnswersAreTheCallersOwn lays other numbers over what is told, and over what was handed in.
func TestAnswersAreTheCallersOwn(t *testing.T) {
	r := rand.New(rand.NewSource(212))
	for range 1000 {
		l := drawn(r, 1+r.Intn(5), 1+r.Intn(39))
		was := taken(l)
		level := slices.IndexFunc(l, func(level []int) bool { return len(level) > 0 })
		for _, call := range []func(l [][]int) [][]int{
			func(l [][]int) [][]int { return [][]int{All(l)} },
			func(l [][]int) [][]int { told, _ := Add(l, 100); return told },
			func(l [][]int) [][]int { told, _ := Pick(l, level); return [][]int{told} },
			func(l [][]int) [][]int { told, _ := Replace(l, level, 100); return told },
		} {
			told := call(l)
			want := taken(told)
			own(t, told)
			spoil(told...)
			stay(t, l, was)
			told = call(l)
			stay(t, told, want)
			spoil(l...)
			stay(t, told, want)
			for i := range told[:cap(told)] {
				told[:cap(told)][i] = []int{-77}
			}
			l = taken(was)
			stay(t, call(l), want)
		}
	}
}

// own tells a failure, if of lists of one answer one has another one's memory: each in turn gets its numbers, and its room, overwritten.
func own(t *testing.T, lists [][]int) {
	t.Helper()
	was := taken(lists)
	for i := range lists {
		spoil(lists[i])
		copy(lists[i], was[i])
		stay(t, lists, was)
	}
	for i := range lists {
		grown := append(lists[i], -77)
		stay(t, lists, was)
		spoil(grown[len(lists[i]):])
		stay(t, lists, was)
	}
}

// P21.5

// where is in which level a table stands, and how many stand ahead of it there.
func where(l [][]int) map[int][2]int {
	places := map[int][2]int{}
	for i, level := range l {
		for k, n := range level {
			places[n] = [2]int{i, k}
		}
	}
	return places
}

// others tells a failure, if a table that both levels have stands elsewhere, or if they have not as many in common.
func others(t *testing.T, l, told [][]int, common int) {
	t.Helper()
	was, is := where(l), where(told)
	for n, place := range is {
		if ahead, ok := was[n]; ok {
			common--
			if ahead != place {
				t.Fatalf("%s, and then %s: %d stands elsewhere", show(l), show(told), n)
			}
		}
	}
	if common != 0 {
		t.Fatalf("%s, and then %s: %d more stay", show(l), show(told), -common)
	}
}

// ends tells a failure, if levels may not be, have an empty one at the end, or not so many tables.
func ends(t *testing.T, l [][]int, tables int) {
	t.Helper()
	if !Valid(l) || !mayBe(l) {
		t.Fatalf("Valid of %s: %v", show(l), Valid(l))
	}
	if len(l) > 0 && len(l[len(l)-1]) == 0 {
		t.Fatalf("%s ends with an empty level", show(l))
	}
	if len(All(l)) != tables {
		t.Fatalf("%s has not %d tables", show(l), tables)
	}
}

// TestWalks has tables come and be merged, as an index has them.
func TestWalks(t *testing.T) {
	r := rand.New(rand.NewSource(213))
	for range 60 {
		var l [][]int
		often := 1 + r.Intn(60)
		for next := range 400 {
			tables := len(All(l))
			level := r.Intn(5)
			if r.Intn(often) > 0 {
				told, e := Add(l, next)
				if tables == 40 {
					if told != nil || e != api.ErrFull {
						t.Fatalf("Add of %s, %d: %s, %v", show(l), next, show(told), e)
					}
					continue
				}
				ends(t, told, tables+1)
				others(t, l, told, tables)
				l = told
				continue
			}
			merged, e := Pick(l, level)
			told, same := Replace(l, level, next)
			if same != e {
				t.Fatalf("Replace of %s, level %d, %d: %v, not %v", show(l), level, next, same, e)
			}
			if e == api.OK {
				ends(t, told, tables-len(merged)+1)
				others(t, l, told, tables-len(merged))
				l = told
			}
		}
	}
}

// TestWhatMayBeStaysSo has levels of any tables.
func TestWhatMayBeStaysSo(t *testing.T) {
	r := rand.New(rand.NewSource(214))
	for range 3000 {
		l := drawn(r, 1+r.Intn(5), r.Intn(41))
		tables := len(All(l))
		if told, e := Add(l, 100); e == api.OK {
			ends(t, told, tables+1)
			others(t, l, told, tables)
		} else if tables < 40 {
			t.Fatalf("Add of %s, 100: %v", show(l), e)
		}
		for level := range l {
			told, e := Replace(l, level, 100)
			if fewer := len(l[level]); fewer > 0 {
				ends(t, told, tables-fewer+1)
				others(t, l, told, tables-fewer)
			} else if e != api.ErrNone {
				t.Fatalf("Replace of %s, level %d, 100: %v", show(l), level, e)
			}
		}
	}
}

// TestExample is the chapter's own.
func TestExample(t *testing.T) {
	l, e := Add(nil, 3)
	if !alike(l, [][]int{{3}}) || e != api.OK {
		t.Errorf("Add of nothing, 3: %s, %v", show(l), e)
	}
	l, e = Replace([][]int{{3, 4}, {5}}, 0, 6)
	if !alike(l, [][]int{nil, {5, 6}}) || e != api.OK {
		t.Errorf("Replace of [3 4 / 5], level 0, 6: %s, %v", show(l), e)
	}
	if told, e := Pick(l, 0); told != nil || e != api.ErrNone {
		t.Errorf("Pick of %s, level 0: %s, %v", show(l), shown(told), e)
	}
}

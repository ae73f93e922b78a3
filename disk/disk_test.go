package disk

import (
	"math"
	"slices"
	"strconv"
	"strings"
	"testing"

	"annalist/api"
)

// made is a new disk.
func made(t *testing.T, capacity int) *Disk {
	t.Helper()
	d, e := New(capacity)
	if d == nil || e != api.OK {
		t.Fatalf("New(%d): %v, %v", capacity, d, e)
	}
	return d
}

// is holds an error against the one that is asked for.
func is(t *testing.T, what string, got, want api.Errno) {
	t.Helper()
	if got != want {
		t.Errorf("%s: %v, not %v", what, got, want)
	}
}

// put lays a file with bytes that are sure and bytes that are not.
func put(t *testing.T, d *Disk, name, sure, rest string) {
	t.Helper()
	for _, e := range []api.Errno{d.Create(name), d.Append(name, sure), d.Sync(name), d.Append(name, rest)} {
		if e != api.OK {
			t.Fatalf("the file %q is not laid: %v", name, e)
		}
	}
}

// state is all that can be asked of a disk but for the files' bytes.
type state struct {
	names, unsynced     string
	free, reads, starts int
	up                  bool
}

func stateOf(d *Disk) state {
	var names, unsynced []string
	for _, name := range d.Names() {
		names = append(names, strconv.Quote(name))
	}
	for _, n := range d.Unsynced() {
		unsynced = append(unsynced, strconv.Itoa(n))
	}
	return state{strings.Join(names, " "), strings.Join(unsynced, " "), d.Free(), d.Reads(), d.Starts(), d.Up()}
}

// bytesOf is all files' bytes, by the files' names; the disk is to be up.
func bytesOf(t *testing.T, d *Disk) string {
	t.Helper()
	var b strings.Builder
	for _, name := range d.Names() {
		n, e := d.Size(name)
		is(t, "Size", e, api.OK)
		s, e := d.Read(name, 0, n)
		is(t, "Read", e, api.OK)
		b.WriteString(name + "=" + s + ";")
	}
	return b.String()
}

// has holds all files' bytes against those that are asked for.
func has(t *testing.T, what string, d *Disk, want string) {
	t.Helper()
	if got := bytesOf(t, d); got != want {
		t.Errorf("%s: the files are %q, not %q", what, got, want)
	}
}

// unsynced holds the numbers of bytes that are not sure against those that are asked for.
func unsynced(t *testing.T, what string, d *Disk, want ...int) {
	t.Helper()
	if got := d.Unsynced(); !slices.Equal(got, want) {
		t.Errorf("%s: unsynced are %v, not %v", what, got, want)
	}
}

// numbers are whole numbers at which something may run over.
func numbers() []int {
	return []int{math.MinInt, math.MinInt + 1, math.MinInt32, -4097, -2, -1, 0, 1, 2, 3, 4, 5, 6, 7, 4096, math.MaxInt32, math.MaxInt - 1, math.MaxInt}
}

// P6.1

func TestNew(t *testing.T) {
	for _, n := range []int{0, 1, 60000, 1<<20 - 1, 1 << 20} {
		d := made(t, n)
		if got, want := stateOf(d), (state{free: n, up: true}); got != want {
			t.Errorf("New(%d): %v, not %v", n, got, want)
		}
	}
	for _, n := range []int{-1, 1<<20 + 1, math.MinInt, math.MaxInt} {
		if d, e := New(n); d != nil || e != api.ErrArg {
			t.Errorf("New(%d): %v, %v", n, d, e)
		}
	}
}

func TestNewDisksAreTheirOwn(t *testing.T) {
	a, b := made(t, 10), made(t, 10)
	put(t, a, "x", "abc", "d")
	is(t, "Crash", a.Crash(nil), api.OK)
	if got, want := stateOf(b), (state{free: 10, up: true}); got != want {
		t.Errorf("the other disk: %v", got)
	}
}

// errorsOf are the errors of all calls that tell one, and whether what they tell beside is nothing.
func errorsOf(d *Disk, name string) (l []api.Errno, nothing bool) {
	s, read := d.Read(name, 0, 0)
	n, size := d.Size(name)
	l = []api.Errno{d.Create(name), d.Append(name, "x"), read, d.Sync(name), d.Rename(name, name), size, d.Delete(name), d.Crash([]int{1}), d.Start(), d.Fail(0, []int{1}), d.Spoil(name, 0, "x"), d.Cut(name, 0)}
	return l, s == "" && n == 0
}

func TestNone(t *testing.T) {
	d := made(t, 10)
	put(t, d, "a", "b", "c")
	copied := *d
	before := stateOf(d)
	for i, none := range []*Disk{nil, {}, new(Disk), &copied} {
		for _, name := range []string{"a", "b", "", strings.Repeat("x", 13)} {
			l, nothing := errorsOf(none, name)
			for k, e := range l {
				if e != api.ErrNil {
					t.Errorf("none %d, name %q, call %d: %v", i, name, k, e)
				}
			}
			if got := stateOf(none); got != (state{}) || !nothing {
				t.Errorf("none %d, name %q: %v", i, name, got)
			}
		}
	}
	if got := stateOf(d); got != before {
		t.Errorf("the disk itself: %v, not %v", got, before)
	}
	has(t, "behind its copy's calls", d, "a=bc;")
}

func TestNoneIsToldAheadOfArguments(t *testing.T) {
	var d *Disk
	is(t, "Create", d.Create(""), api.ErrNil)
	is(t, "Rename", d.Rename("", ""), api.ErrNil)
	is(t, "Fail", d.Fail(-1, nil), api.ErrNil)
	is(t, "Spoil", d.Spoil("", -1, ""), api.ErrNil)
	is(t, "Cut", d.Cut("", -1), api.ErrNil)
	_, e := d.Read("", -1, -1)
	is(t, "Read", e, api.ErrNil)
}

// P6.2

func TestCreate(t *testing.T) {
	d := made(t, 0)
	for _, name := range []string{"a", "\x00", "\xff\xfe", "/", "ä", strings.Repeat("x", 12)} {
		is(t, "Create "+strconv.Quote(name), d.Create(name), api.OK)
		is(t, "Create again "+strconv.Quote(name), d.Create(name), api.ErrHave)
		n, e := d.Size(name)
		if n != 0 || e != api.OK {
			t.Errorf("Size of %q: %d, %v", name, n, e)
		}
	}
	for _, name := range []string{"", strings.Repeat("x", 13), strings.Repeat("ä", 7), strings.Repeat("x", 5000)} {
		is(t, "Create "+strconv.Quote(name), d.Create(name), api.ErrArg)
	}
	if n := len(d.Names()); n != 6 {
		t.Errorf("%d files", n)
	}
}

func TestCreateLeavesAFileThatIsThere(t *testing.T) {
	d := made(t, 9)
	put(t, d, "a", "bc", "d")
	is(t, "Create", d.Create("a"), api.ErrHave)
	unsynced(t, "Create", d, 1)
	has(t, "Create", d, "a=bcd;")
}

func TestCreateOfMostFiles(t *testing.T) {
	d := made(t, 0)
	for i := range 400 {
		is(t, "Create "+strconv.Itoa(i), d.Create(strconv.Itoa(i)), api.OK)
	}
	is(t, "one more", d.Create("x"), api.ErrFull)
	is(t, "no name", d.Create(""), api.ErrArg)
	is(t, "one that is there", d.Create("7"), api.ErrHave)
	is(t, "Rename", d.Rename("0", "x"), api.OK)
	is(t, "Delete", d.Delete("1"), api.OK)
	is(t, "one in its place", d.Create("y"), api.OK)
	is(t, "Rename over one", d.Rename("2", "3"), api.OK)
	is(t, "one in that place", d.Create("2"), api.OK)
	is(t, "one more at the end", d.Create("z"), api.ErrFull)
	if n := len(d.Names()); n != 400 {
		t.Errorf("%d files", n)
	}
}

func TestAppend(t *testing.T) {
	d := made(t, 5)
	is(t, "Create", d.Create("a"), api.OK)
	is(t, "xyz", d.Append("a", "xyz"), api.OK)
	is(t, "uvw", d.Append("a", "uvw"), api.ErrFull)
	is(t, "none", d.Append("b", "x"), api.ErrNone)
	is(t, "no name", d.Append("", "x"), api.ErrNone)
	is(t, "none, and too long", d.Append("b", "uvwxyz"), api.ErrNone)
	if n := d.Free(); n != 2 {
		t.Errorf("Free: %d", n)
	}
	has(t, "Append", d, "a=xyz;")
	unsynced(t, "Append", d, 3)
	is(t, "nothing", d.Append("a", ""), api.OK)
	is(t, "up to the end", d.Append("a", "\x00\xff"), api.OK)
	is(t, "nothing, where all is full", d.Append("a", ""), api.OK)
	is(t, "a byte more", d.Append("a", "x"), api.ErrFull)
	has(t, "Append", d, "a=xyz\x00\xff;")
	unsynced(t, "Append", d, 5)
}

func TestAppendCountsAllFiles(t *testing.T) {
	d := made(t, 5)
	put(t, d, "a", "bc", "")
	put(t, d, "b", "", "d")
	is(t, "three more", d.Append("b", "xyz"), api.ErrFull)
	is(t, "two more", d.Append("b", "xy"), api.OK)
	is(t, "one more", d.Append("a", "x"), api.ErrFull)
	is(t, "Delete", d.Delete("b"), api.OK)
	is(t, "in its place", d.Append("a", "xyz"), api.OK)
	has(t, "Append", d, "a=bcxyz;")
	unsynced(t, "Append", d, 3)
}

func TestAppendOfMost(t *testing.T) {
	d := made(t, 1<<20)
	is(t, "Create", d.Create("a"), api.OK)
	s := strings.Repeat("x", 1<<19)
	is(t, "a half", d.Append("a", s), api.OK)
	is(t, "more than a half", d.Append("a", s+"x"), api.ErrFull)
	is(t, "a half again", d.Append("a", s), api.OK)
	is(t, "one more", d.Append("a", "x"), api.ErrFull)
	if n, e := d.Size("a"); n != 1<<20 || e != api.OK || d.Free() != 0 {
		t.Errorf("Size: %d, %v; Free: %d", n, e, d.Free())
	}
}

func TestRead(t *testing.T) {
	d := made(t, 9)
	put(t, d, "a", "xy", "z")
	reads := 0
	for _, c := range []struct {
		name  string
		at, n int
		want  string
		e     api.Errno
	}{
		{"a", 1, 2, "yz", api.OK},
		{"a", 2, 2, "", api.ErrArg},
		{"a", 0, 3, "xyz", api.OK},
		{"a", 0, 0, "", api.OK},
		{"a", 3, 0, "", api.OK},
		{"a", 3, 1, "", api.ErrArg},
		{"a", 4, 0, "", api.ErrArg},
		{"a", 0, 4, "", api.ErrArg},
		{"a", -1, 2, "", api.ErrArg},
		{"a", -1, 0, "", api.ErrArg},
		{"a", 1, -1, "", api.ErrArg},
		{"a", 5, -2, "", api.ErrArg},
		{"a", 1, math.MaxInt, "", api.ErrArg},
		{"a", math.MaxInt, 1, "", api.ErrArg},
		{"a", math.MaxInt, math.MaxInt, "", api.ErrArg},
		{"a", math.MinInt, math.MaxInt, "", api.ErrArg},
		{"a", math.MaxInt, math.MinInt, "", api.ErrArg},
		{"b", 0, 0, "", api.ErrNone},
		{"b", -1, -1, "", api.ErrNone},
		{"", 0, 0, "", api.ErrNone},
	} {
		s, e := d.Read(c.name, c.at, c.n)
		if s != c.want || e != c.e {
			t.Errorf("Read(%q, %d, %d): %q, %v", c.name, c.at, c.n, s, e)
		}
		if reads++; d.Reads() != reads {
			t.Errorf("Read(%q, %d, %d): %d reads, not %d", c.name, c.at, c.n, d.Reads(), reads)
		}
	}
	unsynced(t, "Read", d, 1)
}

func TestReadAtAllPlaces(t *testing.T) {
	d := made(t, 9)
	const all = "abcde"
	put(t, d, "a", "abc", "de")
	for _, at := range numbers() {
		for _, n := range numbers() {
			want, asked := "", api.ErrArg
			if at >= 0 && at <= 5 && n >= 0 && n <= 5-at {
				want, asked = all[at:at+n], api.OK
			}
			if s, e := d.Read("a", at, n); s != want || e != asked {
				t.Errorf("Read(%d, %d): %q, %v, not %q, %v", at, n, s, e, want, asked)
			}
		}
	}
}

func TestReadStaysAsItWas(t *testing.T) {
	d := made(t, 9)
	put(t, d, "a", "abc", "")
	s, _ := d.Read("a", 0, 3)
	is(t, "Spoil", d.Spoil("a", 0, "xyz"), api.OK)
	if s != "abc" {
		t.Errorf("what was read became %q", s)
	}
}

func TestSync(t *testing.T) {
	d := made(t, 9)
	put(t, d, "a", "bc", "de")
	put(t, d, "b", "", "f")
	is(t, "none", d.Sync("c"), api.ErrNone)
	is(t, "no name", d.Sync(""), api.ErrNone)
	unsynced(t, "Sync of none", d, 2, 1)
	is(t, "Sync", d.Sync("a"), api.OK)
	unsynced(t, "Sync of one", d, 0, 1)
	is(t, "Sync again", d.Sync("a"), api.OK)
	is(t, "Append", d.Append("a", "g"), api.OK)
	unsynced(t, "Append", d, 1, 1)
	has(t, "Sync", d, "a=bcdeg;b=f;")
}

func TestRename(t *testing.T) {
	d := made(t, 9)
	put(t, d, "a", "bc", "d")
	put(t, d, "m", "efg", "")
	is(t, "of none", d.Rename("x", "y"), api.ErrNone)
	is(t, "of none, to none", d.Rename("x", "x"), api.ErrNone)
	is(t, "of none, to one", d.Rename("x", "a"), api.ErrNone)
	is(t, "of none, to no name", d.Rename("x", ""), api.ErrNone)
	is(t, "to no name", d.Rename("a", ""), api.ErrArg)
	is(t, "to a name too long", d.Rename("a", strings.Repeat("x", 13)), api.ErrArg)
	has(t, "Renames that are not done", d, "a=bcd;m=efg;")
	is(t, "to itself", d.Rename("a", "a"), api.OK)
	has(t, "to itself", d, "a=bcd;m=efg;")
	unsynced(t, "to itself", d, 1, 0)
	is(t, "to a new name", d.Rename("a", strings.Repeat("z", 12)), api.OK)
	has(t, "to a new name", d, "m=efg;zzzzzzzzzzzz=bcd;")
	unsynced(t, "to a new name", d, 0, 1)
	is(t, "over one", d.Rename("zzzzzzzzzzzz", "m"), api.OK)
	has(t, "over one", d, "m=bcd;")
	unsynced(t, "over one", d, 1)
	if n := d.Free(); n != 6 {
		t.Errorf("Free: %d", n)
	}
	is(t, "of what is gone", d.Rename("a", "b"), api.ErrNone)
}

func TestDelete(t *testing.T) {
	d := made(t, 9)
	put(t, d, "a", "bc", "d")
	put(t, d, "b", "e", "")
	is(t, "none", d.Delete("c"), api.ErrNone)
	is(t, "no name", d.Delete(""), api.ErrNone)
	is(t, "Delete", d.Delete("a"), api.OK)
	is(t, "again", d.Delete("a"), api.ErrNone)
	has(t, "Delete", d, "b=e;")
	is(t, "Create", d.Create("a"), api.OK)
	has(t, "Create", d, "a=;b=e;")
	if n := d.Free(); n != 8 {
		t.Errorf("Free: %d", n)
	}
}

func TestSize(t *testing.T) {
	d := made(t, 9)
	put(t, d, "a", "bc", "d")
	for _, c := range []struct {
		name string
		n    int
		e    api.Errno
	}{{"a", 3, api.OK}, {"b", 0, api.ErrNone}, {"", 0, api.ErrNone}} {
		if n, e := d.Size(c.name); n != c.n || e != c.e {
			t.Errorf("Size(%q): %d, %v", c.name, n, e)
		}
	}
	if n := d.Reads(); n != 0 {
		t.Errorf("%d reads", n)
	}
}

func TestDown(t *testing.T) {
	d := made(t, 9)
	put(t, d, "a", "bc", "")
	d.Read("a", 0, 1)
	is(t, "Crash", d.Crash(nil), api.OK)
	before := stateOf(d)
	for _, name := range []string{"a", "b", "", strings.Repeat("x", 13)} {
		s, read := d.Read(name, -1, 0)
		n, size := d.Size(name)
		for i, e := range []api.Errno{d.Create(name), d.Append(name, "x"), d.Append(name, "0123456789"), read, d.Sync(name), d.Rename(name, name), d.Rename(name, ""), d.Delete(name), size, d.Crash(nil), d.Fail(0, nil), d.Fail(-1, nil)} {
			if e != api.ErrDown {
				t.Errorf("name %q, call %d: %v", name, i, e)
			}
		}
		if s != "" || n != 0 {
			t.Errorf("name %q: %q, %d", name, s, n)
		}
	}
	if got := stateOf(d); got != before {
		t.Errorf("%v, not %v", got, before)
	}
	is(t, "Start", d.Start(), api.OK)
	has(t, "behind a start", d, "a=bc;")
	is(t, "nothing was set", d.Create("b"), api.OK)
}

// P6.3

func TestNamesRise(t *testing.T) {
	d := made(t, 99)
	names := []string{"b", "a", "ab", "aa", "B", "\xff", "\x00", "ä", "a\x00", "10", "9", "z"}
	for i, name := range names {
		put(t, d, name, strings.Repeat("x", i%3), strings.Repeat("y", i))
	}
	got := d.Names()
	want := []string{"\x00", "10", "9", "B", "a", "a\x00", "aa", "ab", "b", "z", "ä", "\xff"}
	if !slices.Equal(got, want) {
		t.Errorf("Names: %q, not %q", got, want)
	}
	for i, n := range d.Unsynced() {
		if n != slices.Index(names, got[i]) {
			t.Errorf("unsynced of %q: %d", got[i], n)
		}
	}
}

func TestToldWhileDown(t *testing.T) {
	d := made(t, 20)
	put(t, d, "b", "abc", "de")
	put(t, d, "a", "f", "gh")
	for range 3 {
		d.Read("a", 0, 1)
	}
	d.Read("none", 0, 1)
	is(t, "Crash", d.Crash([]int{1, 0}), api.OK)
	if got, want := stateOf(d), (state{`"a" "b"`, "0 0", 15, 4, 0, false}); got != want {
		t.Errorf("down: %v, not %v", got, want)
	}
	d.Read("a", 0, 1)
	if n := d.Reads(); n != 4 {
		t.Errorf("a read while it is down is counted: %d", n)
	}
	is(t, "Start", d.Start(), api.OK)
	if got, want := stateOf(d), (state{`"a" "b"`, "0 0", 15, 4, 1, true}); got != want {
		t.Errorf("up: %v, not %v", got, want)
	}
}

func TestListsAreTheCallers(t *testing.T) {
	d := made(t, 9)
	put(t, d, "a", "b", "c")
	put(t, d, "b", "", "d")
	names, numbers := d.Names(), d.Unsynced()
	names[0], numbers[0] = "z", 99
	unsynced(t, "behind the callers' writing", d, 1, 1)
	has(t, "behind the callers' writing", d, "a=bc;b=d;")
	is(t, "Delete", d.Delete("b"), api.OK)
	if !slices.Equal(names, []string{"z", "b"}) || !slices.Equal(numbers, []int{99, 1}) {
		t.Errorf("the callers' lists became %q, %v", names, numbers)
	}
}

func TestReadingChangesReadsAlone(t *testing.T) {
	d := made(t, 9)
	put(t, d, "a", "b", "c")
	is(t, "Fail", d.Fail(0, nil), api.OK)
	before := stateOf(d)
	for range 5 {
		d.Read("a", 0, 2)
		d.Size("a")
		d.Names()
		d.Unsynced()
		d.Free()
		d.Up()
		d.Starts()
	}
	before.reads = 5
	if got := stateOf(d); got != before {
		t.Errorf("%v, not %v", got, before)
	}
	is(t, "the failure is still set", d.Sync("a"), api.ErrDown)
}

// P6.4

func TestCrashKeeps(t *testing.T) {
	for _, c := range []struct {
		keep []int
		want string
	}{
		{nil, "a=A;b=;c=CC;"},
		{[]int{}, "a=A;b=;c=CC;"},
		{[]int{1}, "a=Aa;b=;c=CC;"},
		{[]int{2}, "a=Aaa;b=;c=CC;"},
		{[]int{3}, "a=Aaa;b=;c=CC;"},
		{[]int{-1, 1}, "a=A;b=b;c=CC;"},
		{[]int{0, 2, 1}, "a=A;b=bb;c=CC;"},
		{[]int{0, 0, 9}, "a=A;b=;c=CC;"},
		{[]int{math.MaxInt, math.MinInt, math.MaxInt}, "a=Aaa;b=;c=CC;"},
		{[]int{1, 3, 0, 7, 7, 7}, "a=Aa;b=bbb;c=CC;"},
	} {
		d := made(t, 99)
		put(t, d, "c", "CC", "")
		put(t, d, "b", "", "bbb")
		put(t, d, "a", "A", "aa")
		kept := slices.Clone(c.keep)
		is(t, "Crash", d.Crash(c.keep), api.OK)
		unsynced(t, "Crash", d, 0, 0, 0)
		if d.Up() || d.Starts() != 0 || !slices.Equal(c.keep, kept) {
			t.Errorf("Crash(%v): up %v, starts %d, the list %v", kept, d.Up(), d.Starts(), c.keep)
		}
		is(t, "Start", d.Start(), api.OK)
		has(t, "Crash", d, c.want)
	}
}

func TestCrashIsUp(t *testing.T) {
	d := made(t, 9)
	put(t, d, "a", "b", "cd")
	is(t, "Start of one that is up", d.Start(), api.ErrArg)
	is(t, "Crash", d.Crash([]int{1}), api.OK)
	is(t, "Crash again", d.Crash([]int{0}), api.ErrDown)
	is(t, "Start", d.Start(), api.OK)
	is(t, "Start again", d.Start(), api.ErrArg)
	if d.Starts() != 1 || !d.Up() {
		t.Errorf("starts %d, up %v", d.Starts(), d.Up())
	}
	is(t, "Crash", d.Crash(nil), api.OK)
	is(t, "Start", d.Start(), api.OK)
	if d.Starts() != 2 {
		t.Errorf("starts %d", d.Starts())
	}
	has(t, "Crash behind a crash", d, "a=bc;")
}

func TestCrashGivesRoom(t *testing.T) {
	d := made(t, 5)
	put(t, d, "a", "bc", "def")
	is(t, "Crash", d.Crash([]int{1}), api.OK)
	if n := d.Free(); n != 2 {
		t.Errorf("Free: %d", n)
	}
	is(t, "Start", d.Start(), api.OK)
	is(t, "Append", d.Append("a", "xyz"), api.ErrFull)
	is(t, "Append", d.Append("a", "xy"), api.OK)
	has(t, "Append", d, "a=bcdxy;")
	unsynced(t, "Append", d, 2)
}

// P6.5

// change is one of a disk with the files a (bc sure, de not) and b (f sure, g not), and what is there behind it.
type change struct {
	name string
	do   func(d *Disk) api.Errno
	done string // where it is done
	down string // where it fails, with all kept
	lost string // where it fails, with nothing kept
}

func changes() []change {
	const before, lost = "a=bcde;b=fg;", "a=bc;b=f;"
	return []change{
		{"Create", func(d *Disk) api.Errno { return d.Create("c") }, "a=bcde;b=fg;c=;", before, lost},
		{"Append", func(d *Disk) api.Errno { return d.Append("a", "hi") }, "a=bcdehi;b=fg;", "a=bcdehi;b=fg;", lost},
		{"Append of nothing", func(d *Disk) api.Errno { return d.Append("a", "") }, before, before, lost},
		{"Sync", func(d *Disk) api.Errno { return d.Sync("a") }, before, before, lost},
		{"Sync of the other", func(d *Disk) api.Errno { return d.Sync("b") }, before, before, lost},
		{"Rename", func(d *Disk) api.Errno { return d.Rename("a", "c") }, "b=fg;c=bcde;", before, lost},
		{"Rename over one", func(d *Disk) api.Errno { return d.Rename("a", "b") }, "b=bcde;", before, lost},
		{"Rename to itself", func(d *Disk) api.Errno { return d.Rename("a", "a") }, before, before, lost},
		{"Delete", func(d *Disk) api.Errno { return d.Delete("b") }, "a=bcde;", before, lost},
	}
}

// two is a disk as changes have it.
func two(t *testing.T) *Disk {
	t.Helper()
	d := made(t, 99)
	put(t, d, "a", "bc", "de")
	put(t, d, "b", "f", "g")
	return d
}

func TestChanges(t *testing.T) {
	for _, c := range changes() {
		d := two(t)
		is(t, c.name, c.do(d), api.OK)
		has(t, c.name, d, c.done)
	}
}

func TestFailOfEachChange(t *testing.T) {
	for _, c := range changes() {
		for _, k := range []struct {
			keep []int
			want string
		}{{[]int{99, 99, 99}, c.down}, {nil, c.lost}} {
			d := two(t)
			is(t, c.name, d.Fail(0, k.keep), api.OK)
			is(t, c.name, c.do(d), api.ErrDown)
			unsynced(t, c.name, d, 0, 0)
			if d.Up() || d.Starts() != 0 {
				t.Errorf("%s: up %v, starts %d", c.name, d.Up(), d.Starts())
			}
			is(t, c.name, d.Start(), api.OK)
			has(t, c.name, d, k.want)
			is(t, c.name+" again", c.do(d), api.OK)
		}
	}
}

func TestFailKeepsPartOfAnAppend(t *testing.T) {
	for n, want := range []string{"a=bc;", "a=bcd;", "a=bcde;", "a=bcdex;", "a=bcdexy;", "a=bcdexy;"} {
		d := made(t, 9)
		put(t, d, "a", "bc", "de")
		is(t, "Fail", d.Fail(0, []int{n}), api.OK)
		is(t, "Append", d.Append("a", "xy"), api.ErrDown)
		is(t, "Start", d.Start(), api.OK)
		has(t, "keep "+strconv.Itoa(n), d, want)
		unsynced(t, "keep "+strconv.Itoa(n), d, 0)
	}
}

func TestFailBehindSome(t *testing.T) {
	for n := range 6 {
		d := made(t, 99)
		is(t, "Fail", d.Fail(n, []int{1}), api.OK)
		l := []api.Errno{d.Create("a"), d.Append("a", "bcd"), d.Sync("a"), d.Append("a", "ef"), d.Rename("a", "b"), d.Delete("b")}
		for i, e := range l {
			want := api.OK
			if i >= n {
				want = api.ErrDown
			}
			is(t, "n "+strconv.Itoa(n)+", change "+strconv.Itoa(i), e, want)
		}
		is(t, "Start", d.Start(), api.OK)
		has(t, "n "+strconv.Itoa(n), d, []string{"", "a=b;", "a=b;", "a=bcde;", "a=bcde;", "b=bcde;"}[n])
	}
}

func TestFailCountsOnlyWhatWouldBeOK(t *testing.T) {
	d := made(t, 5)
	put(t, d, "a", "bc", "")
	is(t, "Fail", d.Fail(1, nil), api.OK)
	nothing := func(what string) {
		t.Helper()
		is(t, what, d.Create("a"), api.ErrHave)
		is(t, what, d.Create(""), api.ErrArg)
		is(t, what, d.Append("b", "x"), api.ErrNone)
		is(t, what, d.Append("a", "defg"), api.ErrFull)
		is(t, what, d.Sync("b"), api.ErrNone)
		is(t, what, d.Rename("b", "a"), api.ErrNone)
		is(t, what, d.Rename("a", ""), api.ErrArg)
		is(t, what, d.Delete("b"), api.ErrNone)
		is(t, what, d.Spoil("b", 0, "x"), api.ErrNone)
		is(t, what, d.Spoil("a", 0, "b"), api.OK)
		is(t, what, d.Cut("a", 9), api.OK)
		is(t, what, d.Start(), api.ErrArg)
		is(t, what, d.Fail(-1, nil), api.ErrArg)
		d.Read("a", 0, 1)
		d.Size("a")
	}
	nothing("ahead of all")
	is(t, "the first change", d.Append("a", "d"), api.OK)
	nothing("ahead of the one that fails")
	is(t, "the second change", d.Append("a", "e"), api.ErrDown)
	is(t, "Start", d.Start(), api.OK)
	has(t, "Fail", d, "a=bc;")
}

func TestFailOfAFullDisk(t *testing.T) {
	d := made(t, 0)
	for i := range 400 {
		is(t, "Create", d.Create(strconv.Itoa(i)), api.OK)
	}
	is(t, "Fail", d.Fail(0, nil), api.OK)
	is(t, "one file more", d.Create("x"), api.ErrFull)
	is(t, "up", d.Start(), api.ErrArg)
	is(t, "a change", d.Sync("7"), api.ErrDown)
}

func TestFailKeepsInTheOrderOfNames(t *testing.T) {
	d := made(t, 99)
	for _, name := range []string{"c", "a", "d", "b"} {
		put(t, d, name, "S", "xyz")
	}
	is(t, "Fail", d.Fail(0, []int{0, 1, 2}), api.OK)
	is(t, "Delete", d.Delete("a"), api.ErrDown)
	is(t, "Start", d.Start(), api.OK)
	has(t, "Fail", d, "a=S;b=Sx;c=Sxy;d=S;")
}

func TestFailWithManyFiles(t *testing.T) {
	d := made(t, 1<<20)
	keep := make([]int, 500)
	for i := range 400 {
		put(t, d, strconv.Itoa(1000+i), "", "xyz")
		keep[i] = i % 5
	}
	is(t, "Fail", d.Fail(0, keep), api.OK)
	is(t, "Sync", d.Sync("1399"), api.ErrDown)
	is(t, "Start", d.Start(), api.OK)
	for i, name := range d.Names() {
		if n, _ := d.Size(name); n != min(i%5, 3) {
			t.Errorf("%s: %d bytes", name, n)
		}
	}
}

func TestFailTakesTheListAsItWas(t *testing.T) {
	d := made(t, 99)
	put(t, d, "a", "b", "cde")
	keep := []int{2}
	is(t, "Fail", d.Fail(0, keep), api.OK)
	keep[0] = 0
	is(t, "Sync", d.Sync("a"), api.ErrDown)
	is(t, "Start", d.Start(), api.OK)
	has(t, "Fail", d, "a=bcd;")
	if keep[0] != 0 {
		t.Errorf("the list became %v", keep)
	}
}

func TestFailInThePlaceOfOne(t *testing.T) {
	d := made(t, 99)
	put(t, d, "a", "b", "cde")
	is(t, "Fail", d.Fail(0, nil), api.OK)
	is(t, "Fail that may not be", d.Fail(-1, []int{3}), api.ErrArg)
	is(t, "Fail again", d.Fail(2, []int{1}), api.OK)
	is(t, "Append", d.Append("a", "f"), api.OK)
	is(t, "Append", d.Append("a", "g"), api.OK)
	is(t, "Append", d.Append("a", "h"), api.ErrDown)
	is(t, "Start", d.Start(), api.OK)
	has(t, "Fail", d, "a=bc;")
}

func TestFailThatMayNotBe(t *testing.T) {
	d := made(t, 9)
	put(t, d, "a", "b", "c")
	for _, n := range []int{-1, -2, math.MinInt} {
		is(t, "Fail", d.Fail(n, []int{0}), api.ErrArg)
	}
	is(t, "Sync", d.Sync("a"), api.OK)
	is(t, "Fail of very many", d.Fail(math.MaxInt, nil), api.OK)
	is(t, "Sync", d.Sync("a"), api.OK)
	is(t, "Crash", d.Crash(nil), api.OK)
	is(t, "Fail of one that is down", d.Fail(-1, nil), api.ErrDown)
}

func TestFailGoesWithACrash(t *testing.T) {
	d := made(t, 99)
	put(t, d, "a", "b", "c")
	is(t, "Fail", d.Fail(1, nil), api.OK)
	is(t, "Crash", d.Crash([]int{9}), api.OK)
	is(t, "Start", d.Start(), api.OK)
	for range 5 {
		is(t, "Append", d.Append("a", "d"), api.OK)
	}
	is(t, "Fail", d.Fail(0, nil), api.OK)
	is(t, "Sync", d.Sync("a"), api.ErrDown)
	is(t, "Start", d.Start(), api.OK)
	for range 5 {
		is(t, "Append", d.Append("a", "e"), api.OK)
	}
	has(t, "Fail", d, "a=bceeeee;")
}

// P6.6

func TestSpoil(t *testing.T) {
	for _, c := range []struct {
		name string
		at   int
		s    string
		e    api.Errno
		want string
	}{
		{"a", 0, "", api.OK, "bcde"},
		{"a", 0, "x", api.OK, "xcde"},
		{"a", 1, "xy", api.OK, "bxye"},
		{"a", 3, "xx", api.OK, "bcdx"},
		{"a", 0, "uvwxyz", api.OK, "uvwx"},
		{"a", 4, "x", api.OK, "bcde"},
		{"a", 5, "x", api.OK, "bcde"},
		{"a", math.MaxInt, "xyz", api.OK, "bcde"},
		{"a", -1, "xyz", api.ErrArg, "bcde"},
		{"a", math.MinInt, "", api.ErrArg, "bcde"},
		{"b", 0, "x", api.ErrNone, "bcde"},
		{"b", -1, "x", api.ErrNone, "bcde"},
		{"", 0, "x", api.ErrNone, "bcde"},
	} {
		for _, down := range []bool{false, true} {
			d := made(t, 9)
			put(t, d, "a", "bc", "de")
			if down {
				is(t, "Crash", d.Crash([]int{9}), api.OK)
			}
			before := stateOf(d)
			is(t, "Spoil", d.Spoil(c.name, c.at, c.s), c.e)
			if got := stateOf(d); got != before {
				t.Errorf("Spoil(%q, %d, %q): %v, not %v", c.name, c.at, c.s, got, before)
			}
			d.Start()
			has(t, "Spoil of "+c.s+" at "+strconv.Itoa(c.at), d, "a="+c.want+";")
		}
	}
}

func TestCut(t *testing.T) {
	for _, c := range []struct {
		name     string
		n        int
		e        api.Errno
		want     string
		unsynced int
	}{
		{"a", 0, api.OK, "", 0},
		{"a", 1, api.OK, "b", 0},
		{"a", 2, api.OK, "bc", 0},
		{"a", 3, api.OK, "bcd", 1},
		{"a", 4, api.OK, "bcde", 2},
		{"a", 5, api.OK, "bcde", 2},
		{"a", math.MaxInt, api.OK, "bcde", 2},
		{"a", -1, api.ErrArg, "bcde", 2},
		{"a", math.MinInt, api.ErrArg, "bcde", 2},
		{"b", 0, api.ErrNone, "bcde", 2},
		{"b", -1, api.ErrNone, "bcde", 2},
		{"", 0, api.ErrNone, "bcde", 2},
	} {
		d := made(t, 9)
		put(t, d, "a", "bc", "de")
		is(t, "Cut", d.Cut(c.name, c.n), c.e)
		unsynced(t, "Cut to "+strconv.Itoa(c.n), d, c.unsynced)
		if n := d.Free(); n != 9-len(c.want) {
			t.Errorf("Cut to %d: %d free", c.n, n)
		}
		has(t, "Cut to "+strconv.Itoa(c.n), d, "a="+c.want+";")

		is(t, "Sync", d.Sync("a"), api.OK)
		is(t, "Append", d.Append("a", "y"), api.OK)
		is(t, "Crash", d.Crash(nil), api.OK)
		is(t, "Cut of one that is down", d.Cut(c.name, c.n), c.e)
		unsynced(t, "down, Cut to "+strconv.Itoa(c.n), d, 0)
		is(t, "Start", d.Start(), api.OK)
		has(t, "down, Cut to "+strconv.Itoa(c.n), d, "a="+c.want+";")
	}
}

func TestWhatIsAppendedBehindACutIsNotSure(t *testing.T) {
	d := made(t, 9)
	put(t, d, "a", "bcd", "")
	is(t, "Cut", d.Cut("a", 1), api.OK)
	is(t, "Append", d.Append("a", "xyz"), api.OK)
	unsynced(t, "Append", d, 3)
	is(t, "Crash", d.Crash([]int{1}), api.OK)
	is(t, "Start", d.Start(), api.OK)
	has(t, "Cut", d, "a=bx;")
}

// What the chapter tells by examples.

func TestExamples(t *testing.T) {
	d := made(t, 5)
	is(t, "Create", d.Create("a"), api.OK)
	is(t, "xyz", d.Append("a", "xyz"), api.OK)
	is(t, "uvw", d.Append("a", "uvw"), api.ErrFull)
	is(t, "b", d.Append("b", "x"), api.ErrNone)
	if n := d.Free(); n != 2 {
		t.Errorf("Free: %d", n)
	}
	s, e := d.Read("a", 1, 2)
	if s != "yz" || e != api.OK {
		t.Errorf("Read: %q, %v", s, e)
	}
	_, e = d.Read("a", 2, 2)
	is(t, "Read", e, api.ErrArg)
	if n := d.Reads(); n != 2 {
		t.Errorf("Reads: %d", n)
	}
	size := func(want int) {
		t.Helper()
		if n, e := d.Size("a"); n != want || e != api.OK {
			t.Errorf("Size: %d, %v, not %d", n, e, want)
		}
	}
	is(t, "Sync", d.Sync("a"), api.OK)
	is(t, "uv", d.Append("a", "uv"), api.OK)
	is(t, "Crash", d.Crash([]int{1}), api.OK)
	is(t, "Start", d.Start(), api.OK)
	size(4)
	is(t, "Fail", d.Fail(0, nil), api.OK)
	is(t, "t", d.Append("a", "t"), api.ErrDown)
	if d.Up() {
		t.Error("it is up")
	}
	is(t, "Start", d.Start(), api.OK)
	size(4)
	is(t, "Spoil", d.Spoil("a", 3, "xx"), api.OK)
	if s, e := d.Read("a", 0, 4); s != "xyzx" || e != api.OK {
		t.Errorf("Read: %q, %v", s, e)
	}
	is(t, "Cut", d.Cut("a", 1), api.OK)
	size(1)
}

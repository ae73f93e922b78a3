package disk

import (
	"math"
	"math/rand"
	"slices"
	"strconv"
	"strings"
	"testing"

	"annalist/api"
)

// plain is a disk as the chapter tells it: of each file what is sure, and what is not.
type plain struct {
	capacity, reads, starts int
	files                   map[string][2]string
	up, set                 bool
	left                    int
	keep                    []int
}

func (p *plain) names() (l []string) {
	for name := range p.files {
		l = append(l, name)
	}
	slices.Sort(l)
	return l
}

func (p *plain) free() int {
	n := p.capacity
	for _, f := range p.files {
		n -= len(f[0] + f[1])
	}
	return n
}

func (p *plain) crash(keep []int) api.Errno {
	for i, name := range p.names() {
		f, kept := p.files[name], ""
		for k := range f[1] {
			if i < len(keep) && k < keep[i] {
				kept += f[1][k : k+1]
			}
		}
		p.files[name] = [2]string{f[0] + kept, ""}
	}
	p.up, p.set = false, false
	return api.OK
}

// change does one, or fails; whole: it is done also where it fails.
func (p *plain) change(whole bool, do func()) api.Errno {
	fails := p.set && p.left == 0
	p.left--
	if !fails || whole {
		do()
	}
	if fails {
		p.crash(p.keep)
		return api.ErrDown
	}
	return api.OK
}

// step is a call, with all that may be handed in.
type step struct {
	kind  string
	a, b  string
	i, n  int
	keep  []int
	error api.Errno
	text  string
	size  int
}

// kinds are all calls that a step may be; those that change more stand there more often.
func kinds() []string {
	return strings.Fields("create create append append append append append read read sync rename delete size crash start start start fail spoil cut")
}

func fits(name string) bool { return 1 <= len(name) && len(name) <= 12 }

// asked is a step with what the chapter asks of it.
func (p *plain) asked(s step) step {
	f, have := p.files[s.a]
	switch s.kind {
	case "start":
		s.error = api.ErrArg
		if !p.up {
			p.up, s.error = true, api.OK
			p.starts++
		}
		return s
	case "spoil", "cut":
		s.error = p.harm(s)
		return s
	}
	if !p.up {
		s.error = api.ErrDown
		return s
	}
	if s.kind == "read" {
		p.reads++
	}
	known := slices.Contains([]string{"create", "crash", "fail"}, s.kind)
	switch {
	case s.kind == "create" && !fits(s.a), s.kind == "fail" && s.n < 0:
		s.error = api.ErrArg
	case s.kind == "create" && have:
		s.error = api.ErrHave
	case !known && !have:
		s.error = api.ErrNone
	case s.kind == "create" && len(p.files) == 400, s.kind == "append" && len(s.b) > p.free():
		s.error = api.ErrFull
	case s.kind == "rename" && !fits(s.b):
		s.error = api.ErrArg
	default:
		p.do(&s, f)
	}
	return s
}

// do is a step that nothing forbids but, of a read, its numbers.
func (p *plain) do(s *step, f [2]string) {
	all := f[0] + f[1]
	lay := func(name, sure, rest string) func() {
		return func() { p.files[name] = [2]string{sure, rest} }
	}
	switch s.kind {
	case "create":
		s.error = p.change(false, lay(s.a, "", ""))
	case "append":
		s.error = p.change(true, lay(s.a, f[0], f[1]+s.b))
	case "sync":
		s.error = p.change(false, lay(s.a, all, ""))
	case "rename":
		s.error = p.change(false, func() {
			delete(p.files, s.a)
			p.files[s.b] = f
		})
	case "delete":
		s.error = p.change(false, func() { delete(p.files, s.a) })
	case "size":
		s.size = len(all)
	case "crash":
		s.error = p.crash(s.keep)
	case "fail":
		p.set, p.left, p.keep = true, s.n, slices.Clone(s.keep)
	case "read":
		s.error = api.ErrArg
		for k := range len(all) + 1 {
			for n := range len(all) + 1 - k {
				if k == s.i && n == s.n {
					s.text, s.error = all[k:k+n], api.OK
				}
			}
		}
	}
}

// harm is what spoils a file, or cuts it off.
func (p *plain) harm(s step) api.Errno {
	f, have := p.files[s.a]
	switch {
	case !have:
		return api.ErrNone
	case s.kind == "spoil" && s.i < 0, s.kind == "cut" && s.n < 0:
		return api.ErrArg
	}
	old, all := f[0]+f[1], ""
	for k := range len(old) {
		switch {
		case s.kind == "cut" && k >= s.n:
		case s.kind == "spoil" && k >= s.i && k-s.i < len(s.b):
			all += s.b[k-s.i : k-s.i+1]
		default:
			all += old[k : k+1]
		}
	}
	sure := min(len(f[0]), len(all))
	p.files[s.a] = [2]string{all[:sure], all[sure:]}
	return api.OK
}

// told is a step with what a disk tells of it.
func told(d *Disk, s step) step {
	switch s.kind {
	case "create":
		s.error = d.Create(s.a)
	case "append":
		s.error = d.Append(s.a, s.b)
	case "read":
		s.text, s.error = d.Read(s.a, s.i, s.n)
	case "sync":
		s.error = d.Sync(s.a)
	case "rename":
		s.error = d.Rename(s.a, s.b)
	case "delete":
		s.error = d.Delete(s.a)
	case "size":
		s.size, s.error = d.Size(s.a)
	case "crash":
		s.error = d.Crash(s.keep)
	case "start":
		s.error = d.Start()
	case "fail":
		s.error = d.Fail(s.n, s.keep)
	case "spoil":
		s.error = d.Spoil(s.a, s.i, s.b)
	case "cut":
		s.error = d.Cut(s.a, s.n)
	}
	return s
}

// stateOfPlain is what stateOf tells of a disk.
func stateOfPlain(p *plain) state {
	var names, unsynced []string
	for _, name := range p.names() {
		names = append(names, strconv.Quote(name))
		unsynced = append(unsynced, strconv.Itoa(len(p.files[name][1])))
	}
	return state{strings.Join(names, " "), strings.Join(unsynced, " "), p.free(), p.reads, p.starts, p.up}
}

// bytesOfPlain is what bytesOf tells of a disk; it is counted as reads.
func bytesOfPlain(p *plain) string {
	var b strings.Builder
	for _, name := range p.names() {
		p.reads++
		b.WriteString(name + "=" + p.files[name][0] + p.files[name][1] + ";")
	}
	return b.String()
}

// stepOf is some step.
func stepOf(r *rand.Rand) step {
	names := []string{"a", "b", "c", "ab", "\xff", "twelve_bytes", "thirteen_byte", ""}
	number := func(n int) int {
		if r.Intn(20) == 0 {
			l := numbers()
			return l[r.Intn(len(l))]
		}
		return r.Intn(n) - 1
	}
	k := kinds()
	s := step{kind: k[r.Intn(len(k))], a: names[r.Intn(len(names))], b: names[r.Intn(len(names))], i: number(12), n: number(8)}
	for range r.Intn(6) {
		s.keep = append(s.keep, number(8))
	}
	return s
}

// same tells whether two steps were answered alike.
func same(a, b step) bool { return a.error == b.error && a.text == b.text && a.size == b.size }

// P6.1 to P6.6: each answer, and all that can be asked behind it, on many ways.
func TestWalks(t *testing.T) {
	r := rand.New(rand.NewSource(6))
	for walk := range 400 {
		capacity := r.Intn(60)
		d := made(t, capacity)
		p := &plain{capacity: capacity, files: map[string][2]string{}, up: true}
		for at := range 120 {
			s := stepOf(r)
			keep := slices.Clone(s.keep)
			got, want := told(d, s), p.asked(s)
			if !same(got, want) || stateOf(d) != stateOfPlain(p) || !slices.Equal(s.keep, keep) {
				t.Fatalf("walk %d, step %d: %+v, not %+v; %+v, not %+v", walk, at, got, want, stateOf(d), stateOfPlain(p))
			}
			for i := range s.keep {
				s.keep[i] = r.Intn(9)
			}
			if !d.Up() {
				continue
			}
			if got, want := bytesOf(t, d), bytesOfPlain(p); got != want {
				t.Fatalf("walk %d, step %d, %+v: the files are %q, not %q", walk, at, s, got, want)
			}
		}
	}
}

// P6.7

// beginnings tells whether each file has a beginning of what it had ahead of a crash, and all that was sure.
func beginnings(t *testing.T, d *Disk, had, sure map[string]string) {
	t.Helper()
	if len(d.Names()) != len(had) {
		t.Fatalf("there are %q, there were %d files", d.Names(), len(had))
	}
	for _, name := range d.Names() {
		n, _ := d.Size(name)
		s, e := d.Read(name, 0, n)
		if e != api.OK || !strings.HasPrefix(had[name], s) || !strings.HasPrefix(s, sure[name]) {
			t.Fatalf("%q: %q, %v; it had %q, of that %q sure", name, s, e, had[name], sure[name])
		}
	}
}

// halves are of each file of a disk that is up all bytes, and those that are sure.
func halves(d *Disk) (had, sure map[string]string) {
	had, sure = map[string]string{}, map[string]string{}
	rest := d.Unsynced()
	for i, name := range d.Names() {
		n, _ := d.Size(name)
		had[name], _ = d.Read(name, 0, n)
		sure[name] = had[name][:n-rest[i]]
	}
	return had, sure
}

func TestWhatFollows(t *testing.T) {
	r := rand.New(rand.NewSource(67))
	for range 300 {
		d := made(t, 80)
		for range 40 {
			s := stepOf(r)
			if s.kind != "fail" && s.kind != "crash" {
				told(d, s)
			}
		}
		had, sure := halves(d)
		is(t, "Crash", d.Crash(stepOf(r).keep), api.OK)
		is(t, "Start", d.Start(), api.OK)
		beginnings(t, d, had, sure)
		left := bytesOf(t, d)
		for _, n := range d.Unsynced() {
			if n != 0 {
				t.Fatalf("%d bytes are not sure behind a crash", n)
			}
		}
		is(t, "Crash", d.Crash(stepOf(r).keep), api.OK)
		is(t, "Start", d.Start(), api.OK)
		has(t, "another crash", d, left)
	}
}

// Wherever a row of changes fails: what was sure is there, creations, renames and deletions are sure at once.
func TestFailAnywhere(t *testing.T) {
	row := func(d *Disk) []api.Errno {
		return []api.Errno{d.Create("new"), d.Append("new", "abc"), d.Append("new", "def"), d.Sync("new"), d.Rename("new", "map"), d.Append("map", "ghi"), d.Delete("log"), d.Create("log")}
	}
	want := []string{
		"log=l;map=m;",
		"log=l;map=m;new=;", // the append is done, but nothing of it is kept
		"log=l;map=m;new=;",
		"log=l;map=m;new=;",
		"log=l;map=m;new=abcdef;",
		"log=l;map=abcdef;",
		"log=l;map=abcdef;",
		"map=abcdef;",
		"log=;map=abcdef;",
	}
	for n := range len(want) {
		d := made(t, 99)
		put(t, d, "log", "l", "")
		put(t, d, "map", "m", "")
		is(t, "Fail", d.Fail(n, nil), api.OK)
		for i, e := range row(d) {
			if (e == api.OK) != (i < n) {
				t.Errorf("n %d, change %d: %v", n, i, e)
			}
		}
		if d.Up() {
			is(t, "Crash", d.Crash(nil), api.OK)
		}
		is(t, "Start", d.Start(), api.OK)
		has(t, "n "+strconv.Itoa(n), d, want[n])
	}
}

func TestRenamesKeepWhatIsNotSure(t *testing.T) {
	d := made(t, 99)
	put(t, d, "a", "bc", "de")
	put(t, d, "b", "fgh", "")
	is(t, "Rename", d.Rename("a", "b"), api.OK)
	is(t, "Crash", d.Crash([]int{1}), api.OK)
	is(t, "Start", d.Start(), api.OK)
	has(t, "Rename", d, "b=bcd;")
}

// No call panics, at whatever numbers.
func TestAnyNumbers(t *testing.T) {
	for _, n := range numbers() {
		for _, k := range numbers() {
			d := made(t, 9)
			put(t, d, "a", "bc", "de")
			d.Read("a", n, k)
			d.Spoil("a", n, "xyz")
			d.Fail(n, []int{k, n})
			d.Append("a", "f")
			d.Cut("a", k)
			d.Crash([]int{n, k})
			d.Cut("a", n)
			d.Spoil("a", k, "xyz")
			d.Fail(k, nil)
			d.Start()
			if free := d.Free(); free < 4 || free > 9 {
				t.Errorf("%d, %d: %d free", n, k, free)
			}
		}
	}
	if d, e := New(math.MinInt); d != nil || e != api.ErrArg {
		t.Error(d, e)
	}
}

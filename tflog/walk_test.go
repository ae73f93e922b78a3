package tflog

import (
	"encoding/binary"
	"fmt"
	"math/rand"
	"slices"
	"strconv"
	"strings"
	"testing"

	"annalist/api"
	"annalist/disk"
)

// answer is what a call tells.
type answer struct {
	payload  string
	at, next int
	error    api.Errno
}

// plain is a log as the chapter tells it, in the order of its words, on a disk of its own; reads is how often it asks for bytes.
type plain struct {
	d                               *disk.Disk
	starts, chunks, end, sure, read int
	over                            bool
}

// whole is where the records stand behind a head, for which all lengths are tried that four bytes may tell, and where they end.
func whole(s string) (at []int, end int) {
	end = 12
	for end+12 <= len(s) {
		n := binary.BigEndian.Uint32([]byte(s[end:]))
		if n > 2000 || end+12+int(n) > len(s) || s[end:end+12+int(n)] != laid(s[end+4:end+4+int(n)]) {
			break
		}
		at, end = append(at, end), end+12+int(n)
	}
	return at, end
}

// isWhole tells whether a chunk's bytes begin with its head, isBeginning whether they are less than that.
func isWhole(s string, n int) bool     { return len(s) >= 12 && s[:12] == head(n) }
func isBeginning(s string, n int) bool { return len(s) < 12 && s == head(n)[:len(s)] }

func (p *plain) bytes(n int) string {
	size, _ := p.d.Size(named(n))
	s, _ := p.d.Read(named(n), 0, size)
	return s
}

// open is Open, of a disk that is up or down.
func (p *plain) open() api.Errno {
	*p = plain{d: p.d, starts: p.d.Starts(), read: p.read}
	if !p.d.Up() {
		return api.ErrDown
	}
	if slices.Contains(p.d.Names(), "new") {
		if e := p.d.Delete("new"); e != api.OK {
			return e
		}
	}
	for _, name := range p.d.Names() {
		if len(name) != 7 || name[0] != 'c' || strings.Trim(name[1:], "0123456789") != "" {
			continue
		}
		if name != named(p.chunks) || p.chunks == 200 {
			return api.ErrBroke
		}
		p.chunks++
	}
	for n := range p.chunks {
		s := p.bytes(n)
		p.read++
		_, end := whole(s)
		last := n+1 == p.chunks
		switch {
		case !isWhole(s, n) && !isBeginning(s, n), !last && len(s) < 12, !last && end != len(s):
			return api.ErrBroke
		case !last:
			p.end = n*4096 + end
		default:
			return p.mend(s, end)
		}
	}
	return api.OK
}

func (p *plain) mend(s string, end int) (e api.Errno) {
	last := p.chunks - 1
	switch {
	case len(s) < 12:
		e = p.d.Delete(named(last))
		p.chunks--
		p.sure = p.end
		return e
	case end != len(s):
		e = p.first(p.d.Create("new"))
		if e == api.OK {
			e = p.d.Append("new", s[:end])
		}
		if e == api.OK {
			e = p.d.Sync("new")
		}
		if e == api.OK {
			e = p.d.Rename("new", named(last))
		}
	default:
		e = p.d.Sync(named(last))
	}
	p.end = last*4096 + end
	p.sure = p.end
	return e
}

// first remembers that a call of the disk answered ErrDown.
func (p *plain) first(e api.Errno) api.Errno {
	p.over = p.over || e == api.ErrDown
	return e
}

func (p *plain) isOver() bool { return p.over || !p.d.Up() || p.d.Starts() != p.starts }

func (p *plain) append(s string) (a answer) {
	switch {
	case p.isOver():
		return answer{error: api.ErrDown}
	case len(s) > 2000:
		return answer{error: api.ErrLong}
	}
	last := p.chunks - 1
	if last >= 0 {
		if size := len(p.bytes(last)); size+12+len(s) <= 4096 {
			if p.d.Free()-12-len(s) < 6000 {
				return answer{error: api.ErrFull}
			}
			if e := p.first(p.d.Append(named(last), laid(s))); e != api.OK {
				return answer{error: e}
			}
			p.end = last*4096 + size + 12 + len(s)
			return answer{at: last*4096 + size}
		}
	}
	if last == 199 || p.d.Free()-24-len(s) < 6000 {
		return answer{error: api.ErrFull}
	}
	if last >= 0 {
		if e := p.first(p.d.Sync(named(last))); e != api.OK {
			return answer{error: e}
		}
	}
	p.sure = p.end
	if e := p.first(p.d.Create(named(last + 1))); e != api.OK {
		return answer{error: e}
	}
	if e := p.first(p.d.Append(named(last+1), head(last+1)+laid(s))); e != api.OK {
		return answer{error: e}
	}
	p.chunks++
	p.end = p.chunks*4096 - 4096 + 24 + len(s)
	return answer{at: p.chunks*4096 - 4096 + 12}
}

func (p *plain) flush() answer {
	if p.isOver() {
		return answer{error: api.ErrDown}
	}
	if p.chunks > 0 {
		if e := p.first(p.d.Sync(named(p.chunks - 1))); e != api.OK {
			return answer{error: e}
		}
	}
	p.sure = p.end
	return answer{}
}

func (p *plain) readAt(pos int) answer {
	if p.isOver() {
		return answer{error: api.ErrDown}
	}
	for n := range p.chunks {
		s := p.bytes(n)
		for at := 12; at+12 <= len(s); at++ {
			if n*4096+at != pos {
				continue
			}
			k := asked(s, at)
			p.read += k
			if k == 2 {
				length := int(binary.BigEndian.Uint32([]byte(s[at:])))
				if payload := s[at+4 : at+4+length]; s[at:at+12+length] == laid(payload) {
					return answer{payload: payload}
				}
			}
		}
	}
	return answer{error: api.ErrNone}
}

func (p *plain) nextOf(pos int) answer {
	if p.isOver() {
		return answer{error: api.ErrDown}
	}
	for n := range p.chunks {
		if pos >= n*4096+4096 {
			continue
		}
		p.read++
		s := p.bytes(n)
		if !isWhole(s, n) {
			continue
		}
		places, end := whole(s)
		for i, at := range places {
			if n*4096+at >= pos {
				behind := append(slices.Clone(places), end)[i+1]
				return answer{s[at+4 : behind-8], n*4096 + at, n*4096 + behind, api.OK}
			}
		}
	}
	return answer{error: api.ErrNone}
}

// walker is two disks alike, a log on one of them, and a plain one on the other one.
type walker struct {
	t    *testing.T
	r    *rand.Rand
	what string
	d    *disk.Disk
	l    *Log
	p    plain
}

func walk(t *testing.T, r *rand.Rand, what string, capacity int) *walker {
	w := &walker{t: t, r: r, what: what, d: made(t, capacity), p: plain{d: made(t, capacity)}}
	w.open()
	return w
}

// both does a thing to both disks.
func (w *walker) both(do func(d *disk.Disk) api.Errno) {
	if a, b := do(w.d), do(w.p.d); a != b {
		w.t.Fatalf("%s: the disks part: %v, %v", w.what, a, b)
	}
}

// open opens both logs; if there is none, both disks are laid anew, since nothing may be asked of them.
func (w *walker) open() {
	ahead, asked := w.d.Reads(), w.p.read
	l, e := Open(w.d)
	if want := w.p.open(); e != want || (l == nil) != (want != api.OK) || w.d.Reads()-ahead != w.p.read-asked {
		w.t.Fatalf("%s: Open: %v, %v, %d reads, not %v, %d", w.what, l, e, w.d.Reads()-ahead, want, w.p.read-asked)
	}
	w.same("Open")
	switch {
	case e == api.ErrDown:
		w.both((*disk.Disk).Start)
		w.open()
	case e != api.OK:
		capacity := w.d.Free()
		for _, s := range files(w.t, w.d) {
			capacity += len(s)
		}
		w.d, w.p.d = made(w.t, capacity), made(w.t, capacity)
		w.open()
	default:
		w.l = l
		w.ends()
	}
}

// same holds all of both disks against each other, but for how often they were read.
func (w *walker) same(call string) {
	w.t.Helper()
	a, b := w.d, w.p.d
	if !slices.Equal(a.Names(), b.Names()) || !slices.Equal(a.Unsynced(), b.Unsynced()) || a.Free() != b.Free() || a.Up() != b.Up() {
		w.t.Fatalf("%s, %s: the disk has %v, %v, %d free, not %v, %v, %d free", w.what, call, a.Names(), a.Unsynced(), a.Free(), b.Names(), b.Unsynced(), b.Free())
	}
	if a.Up() && w.r.Intn(8) == 0 {
		has(w.t, w.what+", "+call, a, files(w.t, b))
	}
}

func (w *walker) ends() {
	w.t.Helper()
	if w.l.End() != w.p.end || w.l.Sure() != w.p.sure {
		w.t.Fatalf("%s: End %d, Sure %d, not %d, %d", w.what, w.l.End(), w.l.Sure(), w.p.end, w.p.sure)
	}
}

// call holds what a call tells against what the plain log tells, and so their reads.
func (w *walker) call(what string, log func() answer, plain func() answer) {
	w.t.Helper()
	ahead, asked := w.d.Reads(), w.p.read
	got := log()
	n := w.d.Reads() - ahead
	if want := plain(); got != want || n != w.p.read-asked {
		w.t.Fatalf("%s, %s: %s, %d, %d, %v, %d reads; not %s, %d, %d, %v, %d reads", w.what, what, short(got.payload), got.at, got.next, got.error, n, short(want.payload), want.at, want.next, want.error, w.p.read-asked)
	}
	w.same(what)
	w.ends()
}

// payload is some payload, now and then one that has records within, or one that is too long.
func (w *walker) payload() string {
	n := w.r.Intn(2002)>>(w.r.Intn(3)*w.r.Intn(3)) + w.r.Intn(2)*w.r.Intn(2)
	b := make([]byte, n)
	w.r.Read(b)
	if w.r.Intn(3) == 0 && n < 1900 {
		return all(string(b[:n/2]), "a") + head(w.r.Intn(3)) + string(b[n/2:n/2+n/4])
	}
	return string(b)
}

// place is some place, often one at which something stands or begins.
func (w *walker) place() int {
	n := w.r.Intn(w.p.chunks + 2)
	switch w.r.Intn(9) {
	case 0:
		return w.r.Intn(n*4096+4096) - 20
	case 1:
		l := numbers()
		return l[w.r.Intn(len(l))]
	case 2:
		return n*4096 + w.r.Intn(15) - 1
	case 3:
		return w.p.end - w.r.Intn(15) + 1
	}
	if !w.d.Up() {
		return 12
	}
	places, end := whole(w.p.bytes(n))
	return n*4096 + append(places, end)[w.r.Intn(len(places)+1)] + w.r.Intn(4)*w.r.Intn(3)
}

// keep is what is kept of each file, some of the numbers none.
func (w *walker) keep() (l []int) {
	for range w.r.Intn(6) {
		l = append(l, w.r.Intn(4200)>>(w.r.Intn(3)*w.r.Intn(6))-1)
	}
	return l
}

// harm spoils a file of the log, or cuts it off, or takes it away, ahead of an Open.
func (w *walker) harm() {
	if len(w.d.Names()) == 0 {
		return
	}
	name := w.d.Names()[w.r.Intn(len(w.d.Names()))]
	at, n := w.r.Intn(4096)>>(w.r.Intn(2)*w.r.Intn(9)), w.r.Intn(9)
	switch n {
	case 0:
		w.both(func(d *disk.Disk) api.Errno { return d.Spoil(name, at, "\x00\xff") })
	case 1:
		w.both(func(d *disk.Disk) api.Errno { return d.Cut(name, at) })
	case 2:
		w.both(func(d *disk.Disk) api.Errno { return d.Create("new") })
	case 3:
		w.both(func(d *disk.Disk) api.Errno { return d.Append(name, head(0)[:min(at, 12)]) })
	}
}

func (w *walker) step() {
	if w.p.isOver() && w.r.Intn(3) == 0 {
		w.open()
	}
	s, pos, keep, n := w.payload(), w.place(), w.keep(), w.r.Intn(6)
	switch w.r.Intn(16) {
	default:
		w.call("Append", func() (a answer) { a.at, a.error = w.l.Append(s); return }, func() answer { return w.p.append(s) })
	case 7, 8:
		w.call("Flush", func() answer { return answer{error: w.l.Flush()} }, w.p.flush)
	case 9, 10:
		w.call("Read of "+strconv.Itoa(pos), func() (a answer) { a.payload, a.error = w.l.Read(pos); return }, func() answer { return w.p.readAt(pos) })
	case 11, 12:
		w.call("Next of "+strconv.Itoa(pos), func() (a answer) { a.payload, a.at, a.next, a.error = w.l.Next(pos); return }, func() answer { return w.p.nextOf(pos) })
	case 13:
		w.both(func(d *disk.Disk) api.Errno { return d.Fail(n, keep) })
	case 14:
		if n < 3 {
			w.both(func(d *disk.Disk) api.Errno { return d.Crash(keep) })
		}
		if n < 2 {
			w.both((*disk.Disk).Start)
		}
	case 15:
		if w.d.Up() {
			w.harm()
		}
		w.open()
	}
}

// P12.1 to P12.8: each answer, how often the disk is read, and all of the disk behind it, on many ways.
func TestWalks(t *testing.T) {
	r := rand.New(rand.NewSource(12))
	for n := range 400 {
		w := walk(t, r, "", 6000+r.Intn(30000))
		for at := range 100 {
			w.what = fmt.Sprintf("walk %d, step %d", n, at)
			w.step()
		}
	}
}

// P12.8

// told are all records of a log, in order, each of which is read where it stands, too.
func told(t *testing.T, l *Log) (payloads []string, places []int) {
	t.Helper()
	for pos := 0; ; {
		p, at, next, e := l.Next(pos)
		if e != api.OK {
			is(t, "Next", e, api.ErrNone)
			return payloads, places
		}
		if s, e := l.Read(at); s != p || e != api.OK || at < pos || next != at+12+len(p) || next > l.End() {
			t.Fatalf("Next(%d): %s, %d, %d; Read: %s, %v", pos, short(p), at, next, short(s), e)
		}
		payloads, places, pos = append(payloads, p), append(places, at), next
	}
}

func TestWhatIsAppendedIsTold(t *testing.T) {
	r := rand.New(rand.NewSource(128))
	for range 30 {
		w := &walker{r: r}
		d := made(t, 60000)
		l := opened(t, d)
		var want []string
		var at []int
		for range r.Intn(60) {
			p := w.payload()
			if pos, e := l.Append(p); e == api.OK {
				want, at = append(want, p), append(at, pos)
			}
		}
		for range 3 {
			if got, places := told(t, l); !slices.Equal(got, want) || !slices.Equal(places, at) {
				t.Fatalf("%v, not %v", places, at)
			}
			l = opened(t, d)
			ends(t, "opened", l, l.End(), l.End())
		}
	}
}

// row is what a log is asked in order: an Append of so many bytes, or a Flush, if below 0.
func row() []int {
	return []int{3, -1, 0, 1500, 1900, 900, -1, 30, 2000, 1000, 1000, 2000, 2000, -1, -1, 44, 12, 2000}
}

// appended lets a log go through a row; all that it was asked to append, and how many of these were sure, as it told.
func appended(t *testing.T, l *Log) (l0 []string, sure int) {
	t.Helper()
	var places []int
	for i, n := range row() {
		if n < 0 {
			l.Flush()
		} else {
			p := strings.Repeat(laid(strconv.Itoa(i)), 200)[:n]
			pos, e := l.Append(p)
			if l0 = append(l0, p); e == api.OK {
				places = append(places, pos)
			}
		}
		if !l.disk.Up() {
			break
		}
	}
	for _, pos := range places {
		if pos < l.Sure() {
			sure++
		}
	}
	return l0, sure
}

// leads asks of an opened log for a beginning of what was appended, with all that was sure; and that it is the same, when it is opened again.
func leads(t *testing.T, what string, d *disk.Disk, want []string, sure int) *Log {
	t.Helper()
	l := opened(t, d)
	got, places := told(t, l)
	if len(got) > len(want) || len(got) < sure || !slices.Equal(got, want[:len(got)]) {
		t.Fatalf("%s: %d records of %d, of which %d were sure", what, len(got), len(want), sure)
	}
	had := files(t, d)
	again := opened(t, d)
	ends(t, what, again, l.End(), l.End())
	if more, at := told(t, again); !slices.Equal(more, got) || !slices.Equal(at, places) {
		t.Errorf("%s: opened again it is another one", what)
	}
	has(t, what, d, had)
	return again
}

// keeps are lists of what is kept of each file.
func keeps() [][]int {
	l := [][]int{nil, {5000, 5000, 5000, 5000, 5000}}
	for _, k := range []int{1, 4, 11, 12, 13, 15, 16, 24, 25, 1000, 2012, 2024, 2025} {
		l = append(l, []int{k, k, k, k, k}, []int{0, 5000, k})
	}
	return l
}

// Wherever a row fails, with whatever kept.
func TestFailAnywhere(t *testing.T) {
	for n := range 30 {
		for i, keep := range keeps() {
			d := made(t, 60000)
			l := opened(t, d)
			is(t, "Fail", d.Fail(n, keep), api.OK)
			want, sure := appended(t, l)
			if d.Up() {
				is(t, "Crash", d.Crash(keep), api.OK)
			}
			is(t, "Start", d.Start(), api.OK)
			l = leads(t, fmt.Sprintf("%d changes, list %d", n, i), d, want, sure)
			puts(t, l, "on", nextPlace(l, "on"))
		}
	}
}

// nextPlace is where the next record is to stand.
func nextPlace(l *Log, payload string) int {
	end := l.End()
	switch n := (end + 4095) / 4096; {
	case end == 0:
		return 12
	case end+12+len(payload) <= n*4096:
		return end
	default:
		return n*4096 + 12
	}
}

// Wherever an Open fails, and the ones behind it, with whatever kept: the next one leads on.
func TestOpensFail(t *testing.T) {
	r := rand.New(rand.NewSource(1281))
	for run := range 600 {
		w := &walker{r: r}
		d := made(t, 60000)
		l := opened(t, d)
		is(t, "Fail", d.Fail(r.Intn(30), w.keep()), api.OK)
		want, sure := appended(t, l)
		if d.Up() {
			is(t, "Crash", d.Crash(w.keep()), api.OK)
		}
		for range r.Intn(6) {
			is(t, "Start", d.Start(), api.OK)
			is(t, "Fail", d.Fail(r.Intn(6), w.keep()), api.OK)
			if l, e := Open(d); (l == nil) != (e == api.ErrDown) || d.Up() != (l != nil) {
				t.Fatalf("run %d: %v, %v", run, l, e)
			}
			if d.Up() {
				is(t, "Crash", d.Crash(w.keep()), api.OK)
			}
		}
		is(t, "Start", d.Start(), api.OK)
		leads(t, fmt.Sprint("run ", run), d, want, sure)
	}
}

// Rows behind crashes, each going on from what is there.
func TestCrashesOneBehindTheOther(t *testing.T) {
	r := rand.New(rand.NewSource(1282))
	for run := range 60 {
		w := &walker{r: r}
		d := made(t, 100000)
		l := opened(t, d)
		var have []string
		for range 6 {
			is(t, "Fail", d.Fail(r.Intn(20), w.keep()), api.OK)
			ahead := l.Sure()
			more, sure := appended(t, l)
			if ahead > l.Sure() {
				t.Fatalf("run %d: what was sure is it no more", run)
			}
			if d.Up() {
				is(t, "Crash", d.Crash(w.keep()), api.OK)
			}
			is(t, "Start", d.Start(), api.OK)
			have = append(have, more...)
			l = leads(t, fmt.Sprint("run ", run), d, have, len(have)-len(more)+sure)
			have, _ = told(t, l)
		}
	}
}

// Cut off at each byte the last chunk has just the records that are whole, whatever bytes they have: also records' own.
func TestCutOffAtEachByte(t *testing.T) {
	l := []string{"a", laid("b"), laid("") + laid("c"), "\x00\x00\x00\x00", laid("d")[4:], head(1), strings.Repeat("\x00", 50), laid(laid(laid("e"))), laid("f")[:12]}
	s, places := head(1), []int{4096 + 12}
	for _, p := range l {
		s += laid(p)
		places = append(places, 4096+len(s))
	}
	for size := range len(s) + 1 {
		d := laidOut(t, 60000, map[string]string{"c000000": head(0) + laid("z"), "c000001": s[:size]})
		k := 0
		for k < len(l) && places[k+1] <= 4096+size {
			k++
		}
		log := leads(t, fmt.Sprintf("%d bytes", size), d, append([]string{"z"}, l...), 1+k)
		if got, _ := told(t, log); len(got) != 1+k {
			t.Errorf("%d bytes: %d records", size, len(got))
		}
		if size >= 12 {
			ends(t, "cut off", log, places[k], places[k])
			continue
		}
		ends(t, "cut off", log, 25, 25)
	}
}

package index

import (
	"fmt"
	"math/rand"
	"slices"
	"testing"

	"annalist/api"
	"annalist/disk"
	"annalist/indexmap"
	"annalist/tflog"
)

// plain is what an index is to be, by lists alone.
type plain struct {
	m      api.Manifest
	tables map[int][]api.Entry
	memory []api.Entry
}

// all is all entries.
func (p *plain) all() []api.Entry {
	l := slices.Clone(p.memory)
	for _, one := range p.tables {
		l = append(l, one...)
	}
	return sorted(l)
}

// flushed is what it is behind a Flush that is OK.
func (p *plain) flushed(end int) *plain {
	q := &plain{of(p.m.Next+1, end, p.m.Seed), map[int][]api.Entry{p.m.Next: p.memory}, nil}
	for n, l := range p.tables {
		q.tables[n] = l
	}
	q.m.Levels = make([][]int, 5)
	copy(q.m.Levels, p.m.Levels)
	q.m.Levels[0] = append(slices.Clone(q.m.Levels[0]), p.m.Next)
	return q
}

// merged is what it is behind a Merge that is OK.
func (p *plain) merged(level int) *plain {
	q := &plain{of(p.m.Next+1, p.m.Check, p.m.Seed), map[int][]api.Entry{}, p.memory}
	q.m.Levels = make([][]int, 5)
	copy(q.m.Levels, p.m.Levels)
	var l []api.Entry
	for n, one := range p.tables {
		if slices.Contains(p.m.Levels[level], n) {
			l = append(l, one...)
		} else {
			q.tables[n] = one
		}
	}
	q.tables[p.m.Next] = sorted(l)
	q.m.Levels[level] = nil
	below := min(level+1, 4)
	q.m.Levels[below] = append(slices.Clone(q.m.Levels[below]), p.m.Next)
	return q
}

// walker leads an index, and what it is to be, over one disk.
type walker struct {
	t    *testing.T
	r    *rand.Rand
	what string
	d    *disk.Disk
	l    *tflog.Log
	x    *Index
	p    *plain
	ok   int // steps that laid a table
	full int // those that found no room
}

// room tells whether a table and a manifest find room on the disk as it is.
func (w *walker) room(q *plain) bool {
	l := q.tables[w.p.m.Next]
	laid := len(filtered(l, rate)) + len(tabled(l)) + len(mapped(q.m))
	return w.d.Free()-laid >= 6000 && len(slices.Concat(q.m.Levels...)) <= 40
}

// lays holds what a Flush or a Merge tells, where all but room is there for it.
func (w *walker) lays(what string, do func() api.Errno, q *plain) {
	w.t.Helper()
	want := api.OK
	if !w.room(q) {
		want = api.ErrFull
		w.full++
	}
	e := do()
	if !w.d.Up() {
		w.down(q, e)
		return
	}
	is(w.t, w.what+": "+what, e, want)
	if want == api.OK {
		w.p = q
		w.ok++
	}
}

// down has the disk gone down in a Flush or a Merge, and opens all again: which of both manifests lies there the index knew.
func (w *walker) down(q *plain, e api.Errno) {
	w.t.Helper()
	if e != api.ErrDown && e != api.ErrFull {
		w.t.Fatalf("%s: the disk is down: %v", w.what, e)
	}
	if show(bare(w.x.Manifest())) == show(bare(q.m)) {
		w.p = q
	}
	state(w.t, w.what+": the disk is down", w.x, w.p.m, len(w.p.memory))
	is(w.t, "Start", w.d.Start(), api.OK)
	w.open()
}

// open opens log and index again; what was in memory is added again.
func (w *walker) open() {
	w.t.Helper()
	w.l = logged(w.t, w.d, 0)
	m, e := indexmap.Load(w.d)
	if e == api.ErrNone && w.p.m.Next == 0 {
		m, e = api.Manifest{}, api.OK
	}
	if e != api.OK || show(m) != show(bare(w.p.m)) {
		w.t.Fatalf("%s: Load: %s, %v, not %s", w.what, show(m), e, show(w.p.m))
	}
	is(w.t, "Clean", indexmap.Clean(w.d, m), api.OK)
	w.x = opened(w.t, w.d, m)
	for _, i := range w.r.Perm(len(w.p.memory)) {
		adds(w.t, w.x, w.p.memory[i])
	}
}

// keep is how many bytes of each file are kept.
func (w *walker) keep() []int {
	var l []int
	for range 90 {
		l = append(l, w.r.Intn(100)-20)
	}
	return l
}

// step is one more thing that is asked.
func (w *walker) step() {
	w.t.Helper()
	switch k := w.r.Intn(12); {
	case k < 5:
		for range w.r.Intn(9) {
			e := at(uint64(w.r.Intn(4))<<60, w.r.Intn(12), w.r.Intn(3))
			adds(w.t, w.x, e)
			w.p.memory = sorted(w.p.memory, []api.Entry{e})
		}
		w.l.Append("a record")
		if !w.d.Up() {
			w.down(w.p, api.ErrDown)
		}
	case k < 8:
		if len(w.p.memory) > 0 {
			w.lays("Flush", func() api.Errno { return w.x.Flush(w.l) }, w.p.flushed(w.l.End()))
		}
	case k < 10:
		level := w.r.Intn(5)
		if level >= len(w.p.m.Levels) || len(w.p.m.Levels[level]) == 0 {
			is(w.t, w.what+": Merge of nothing", w.x.Merge(level), api.ErrNone)
			return
		}
		w.lays("Merge", func() api.Errno { return w.x.Merge(level) }, w.p.merged(level))
	case k == 10:
		is(w.t, "Fail", w.d.Fail(w.r.Intn(40), w.keep()), api.OK)
	case w.r.Intn(3) == 0:
		is(w.t, "Crash", w.d.Crash(w.keep()), api.OK)
		is(w.t, "Start", w.d.Start(), api.OK)
		w.open()
	}
}

// holds holds all that there is against what is to be.
func (w *walker) holds() {
	w.t.Helper()
	state(w.t, w.what, w.x, w.p.m, len(w.p.memory))
	all := w.p.all()
	h, from, to := uint64(w.r.Intn(5))<<60, w.r.Intn(14)-1, w.r.Intn(14)-1
	if l, e := w.x.Range(h, from, to); e != api.OK || !slices.Equal(l, inRange(all, h, from, to)) {
		w.t.Fatalf("%s: Range(%d, %d, %d): %s, %v, not %s", w.what, h, from, to, short(l), e, short(inRange(all, h, from, to)))
	}
	if n, e := w.x.Last(h, to); e != api.OK || n != lastOf(all, h, to) {
		w.t.Fatalf("%s: Last(%d, %d): %d, %v, not %d", w.what, h, to, n, e, lastOf(all, h, to))
	}
	want := map[string]string{}
	for n, l := range w.p.tables {
		want = withTable(want, n, l)
	}
	if w.p.m.Next > 0 {
		want["map"] = mapped(w.p.m)
	}
	got := files(w.t, w.d)
	for name := range got {
		if name[0] == 'c' {
			delete(got, name)
		}
	}
	if fmt.Sprint(got) != fmt.Sprint(want) {
		w.t.Fatalf("%s: the disk has %.900q, not %.900q", w.what, got, want)
	}
}

// P24.1 to P24.6: each answer, and all of the index on the disk behind it, on many ways, of which some find no room, and many are cut off by crashes.
func TestWalks(t *testing.T) {
	r := rand.New(rand.NewSource(24))
	ok, full := 0, 0
	for n := range 60 {
		d := made(t, 6000+r.Intn(12000), nil)
		w := &walker{t: t, r: r, d: d, l: logged(t, d, 0), x: opened(t, d, api.Manifest{}), p: &plain{tables: map[int][]api.Entry{}}}
		for at := range 150 {
			w.what = fmt.Sprintf("walk %d, step %d", n, at)
			w.step()
			w.holds()
		}
		ok, full = ok+w.ok, full+w.full
	}
	if ok < 500 || full < 100 {
		t.Fatalf("%d tables were laid, %d found no room", ok, full)
	}
}

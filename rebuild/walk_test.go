package rebuild

import (
	"fmt"
	"math/rand"
	"slices"
	"testing"

	"annalist/api"
	"annalist/batches"
	"annalist/disk"
	"annalist/hashes"
	"annalist/index"
	"annalist/names"
	"annalist/tflog"
)

// P25.2

func TestOpenedAgainBehindFlush(t *testing.T) {
	for _, seed := range []uint64{0, 1, 9} {
		s := sceneOf(t, seed)
		is(t, "Delete", s.d.Delete("map"), api.OK)
		x := opened(t, "Open", s.d, s.l, seed, true)
		is(t, "Flush", x.Flush(s.l), api.OK)
		m := of(1, s.l.End(), seed, []int{0})
		had := withTable(with(s.bare, "map", mapped(m)), 0, s.all)
		for range 2 {
			x = opened(t, "opened again", s.d, s.l, seed, false)
			state(t, "opened again", x, m, 0)
			answers(t, "opened again", x, s.all)
			has(t, "opened again", s.d, had)
		}
		more := some("a", 6, 2)
		each := entriesOf(seed, []api.Batch{more}, writes(t, s.l, more))
		x = opened(t, "a record more", s.d, s.l, seed, false)
		state(t, "a record more", x, m, 2)
		answers(t, "a record more", x, sorted(s.all, each[0]))
		is(t, "Flush", x.Flush(s.l), api.OK)
		m = of(2, s.l.End(), seed, []int{0, 1})
		state(t, "opened again", opened(t, "opened again", s.d, s.l, seed, false), m, 0)
		is(t, "Merge", x.Merge(0), api.OK)
		m = of(3, s.l.End(), seed, nil, []int{2})
		x = opened(t, "behind Merge", s.d, s.l, seed, false)
		state(t, "behind Merge", x, m, 0)
		answers(t, "behind Merge", x, sorted(s.all, each[0]))
		is(t, "Crash", s.d.Crash(nil), api.OK)
		is(t, "Start", s.d.Start(), api.OK)
		x = opened(t, "behind a crash", s.d, logged(t, s.d), seed, false)
		answers(t, "behind a crash", x, sorted(s.all, each[0]))
	}
}

// TestOpenedAgainWithoutATable is anew each time: a Flush of nothing lays none.
func TestOpenedAgainWithoutATable(t *testing.T) {
	d := made(t, 60000, nil)
	l := logged(t, d)
	for range 3 {
		x := opened(t, "no records", d, l, 5, true)
		is(t, "Flush", x.Flush(l), api.OK)
		has(t, "no records", d, nil)
	}
	all := entriesOf(5, story()[:1], writes(t, l, story()[0]))[0]
	had := files(t, d)
	for range 3 {
		x := opened(t, "no Flush", d, l, 5, true)
		state(t, "no Flush", x, of(0, 0, 5), 2)
		answers(t, "no Flush", x, all)
		has(t, "no Flush", d, had)
	}
}

// walker leads a log and its index over one disk.
type walker struct {
	t      *testing.T
	r      *rand.Rand
	what   string
	d      *disk.Disk
	l      *tflog.Log
	x      *index.Index
	seed   uint64
	wrote  []api.Batch // all that may be in the log, in order
	places []int
	spoilt bool // whether the manifest or a table of it was, since Open
	anew   int  // how often it was made anew
	found  int  // how often tables were found
}

// keep is how many bytes of each file a crash keeps.
func (w *walker) keep() []int {
	var l []int
	for range 90 {
		l = append(l, w.r.Intn(300)-60)
	}
	return l
}

// open starts the disk, and opens all again; what the log lost is forgotten.
func (w *walker) open() {
	w.t.Helper()
	if !w.d.Up() {
		is(w.t, w.what+": Start", w.d.Start(), api.OK)
	}
	w.putOff()
	w.l = logged(w.t, w.d)
	w.recall()
	if w.r.Intn(6) == 0 {
		w.seed = uint64(w.r.Intn(3))
	}
	want := w.spoilt || !slices.Contains(w.d.Names(), "map") || w.x.Manifest().Seed != w.seed
	x, anew, e := Open(w.d, w.l, w.seed, rate)
	if e != api.OK || anew != want {
		w.t.Fatalf("%s: Open: %v, %v, not %v", w.what, anew, e, want)
	}
	if anew {
		w.anew++
		state(w.t, w.what, x, of(0, 0, w.seed), len(w.all()))
	} else {
		w.found++
		m := w.x.Manifest()
		state(w.t, w.what, x, m, len(slices.Concat(w.each()...))-len(slices.Concat(w.upTo(m.Check)...)))
	}
	w.x, w.spoilt = x, false
}

// recall holds the log's records against what was written: these are a part of it, from the front on.
func (w *walker) recall() {
	w.t.Helper()
	w.places = nil
	for pos := 0; ; {
		payload, at, next, e := w.l.Next(pos)
		if e == api.ErrNone {
			break
		}
		is(w.t, "Next", e, api.OK)
		s, _ := batches.Put(w.wrote[len(w.places)])
		if s != payload {
			w.t.Fatalf("%s: the record at %d is %q, not %q", w.what, at, payload, s)
		}
		w.places = append(w.places, at)
		pos = next
	}
	w.wrote = w.wrote[:len(w.places)]
}

// each is the entries of all records, record by record; upTo those of the records ahead of a place.
func (w *walker) each() [][]api.Entry { return entriesOf(w.seed, w.wrote[:len(w.places)], w.places) }

func (w *walker) upTo(place int) [][]api.Entry {
	n, _ := slices.BinarySearch(w.places, place)
	return w.each()[:n]
}

// all is the entries of all records, in order.
func (w *walker) all() []api.Entry { return sorted(w.each()...) }

// append writes a batch, and adds its entries.
func (w *walker) append() {
	w.t.Helper()
	stream, first := string(rune('a'+w.r.Intn(5))), 0
	for _, b := range w.wrote {
		if b.Stream == stream {
			first = b.First + len(b.Events)
		}
	}
	b := some(stream, first, 1+w.r.Intn(8))
	s, _ := batches.Put(b)
	pos, e := w.l.Append(s)
	switch e {
	case api.ErrFull:
		return
	case api.OK:
		w.places = append(w.places, pos)
		for i := range b.Events {
			is(w.t, "Add", w.x.Add(at(hashes.Hash(w.seed, stream), first+i, pos)), api.OK)
		}
	case api.ErrDown:
	default:
		w.t.Fatalf("%s: Append: %v", w.what, e)
	}
	w.wrote = append(w.wrote, b)
}

// putOff puts a failure off that was set and did not come yet.
func (w *walker) putOff() {
	w.t.Helper()
	is(w.t, "Fail", w.d.Fail(1<<30, nil), api.OK)
}

// spoil overwrites, cuts off, or deletes a file of the index.
func (w *walker) spoil() {
	w.t.Helper()
	w.putOff()
	var l []string
	for _, name := range w.d.Names() {
		if name[0] == 'm' || name[0] == 't' || name[0] == 'b' {
			l = append(l, name)
		}
	}
	if len(l) == 0 {
		return
	}
	name := l[w.r.Intn(len(l))]
	size, _ := w.d.Size(name)
	s, _ := w.d.Read(name, 0, size)
	i := w.r.Intn(size)
	switch w.r.Intn(3) {
	case 0:
		w.d.Spoil(name, i, string([]byte{s[i] ^ byte(1+w.r.Intn(255))}))
	case 1:
		w.d.Cut(name, i)
	case 2:
		w.d.Delete(name)
	}
	_, n, _ := names.Parse(name)
	// A crash may have left a table that the manifest does not have.
	w.spoilt = w.spoilt || name == "map" || name[0] == 't' && slices.Contains(slices.Concat(w.x.Manifest().Levels...), n)
}

// step is one more thing that is done.
func (w *walker) step() {
	w.t.Helper()
	switch k := w.r.Intn(24); {
	case k < 12:
		w.append()
	case k < 15:
		if e := w.x.Flush(w.l); e != api.OK && e != api.ErrFull && e != api.ErrDown {
			w.t.Fatalf("%s: Flush: %v", w.what, e)
		}
	case k < 17:
		if e := w.x.Merge(w.r.Intn(3)); e != api.OK && e != api.ErrNone && e != api.ErrFull && e != api.ErrDown {
			w.t.Fatalf("%s: Merge: %v", w.what, e)
		}
	case k < 18:
		is(w.t, "Fail", w.d.Fail(w.r.Intn(12), w.keep()), api.OK)
	case k < 20:
		is(w.t, "Crash", w.d.Crash(w.keep()), api.OK)
		is(w.t, "Start", w.d.Start(), api.OK)
		if k == 18 {
			w.spoil()
		}
		w.open()
	case k < 22:
		w.spoil()
		w.open()
	case k < 23:
		// The disk may go down in the log's Open, or in this one: then all is opened once more.
		is(w.t, "Fail", w.d.Fail(w.r.Intn(6), w.keep()), api.OK)
		w.tries()
	default:
		w.open()
	}
	if !w.d.Up() {
		w.open()
	}
}

// tries opens all where the disk may go down.
func (w *walker) tries() {
	w.t.Helper()
	l, e := tflog.Open(w.d)
	if e == api.OK {
		var x *index.Index
		if x, _, e = Open(w.d, l, w.seed, rate); e == api.OK {
			w.l, w.x = l, x
			w.recall()
			return
		}
	}
	is(w.t, w.what+": tries", e, api.ErrDown)
}

// TestWalks holds behind each step that the index has an entry for each event of the log, and none beside.
func TestWalks(t *testing.T) {
	r := rand.New(rand.NewSource(25))
	anew, found := 0, 0
	for n := range 40 {
		w := &walker{t: t, r: r, d: made(t, 9000+r.Intn(25000), nil), seed: uint64(r.Intn(3))}
		w.what = fmt.Sprintf("walk %d", n)
		w.open()
		for at := range 120 {
			w.what = fmt.Sprintf("walk %d, step %d", n, at)
			w.step()
			answers(t, w.what, w.x, w.all())
		}
		anew, found = anew+w.anew, found+w.found
	}
	if anew < 200 || found < 200 {
		t.Fatalf("%d were made anew, %d found", anew, found)
	}
}

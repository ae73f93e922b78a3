package store

import (
	"fmt"
	"math"
	"math/rand"
	"slices"
	"strings"
	"testing"

	"annalist/api"
	"annalist/batches"
	"annalist/disk"
	"annalist/hashes"
)

// P26.5

// together is all pages of a size, up from the front, one behind the other, and all down from the end.
func together(t *testing.T, s *Store, stream string, size int) (up, down []api.Told) {
	t.Helper()
	for {
		l, e := s.Forward(stream, len(up), size)
		is(t, "Forward", e, api.OK)
		up = append(up, l...)
		if len(l) == 0 {
			break
		}
	}
	last, e := s.Last(stream)
	is(t, "Last", e, api.OK)
	for from := last; from >= 0; {
		l, e := s.Backward(stream, from, size)
		is(t, "Backward", e, api.OK)
		if len(l) == 0 {
			t.Fatalf("Backward of %q from %d tells nothing", stream, from)
		}
		down, from = append(down, l...), from-len(l)
	}
	return up, down
}

// isTogether holds that all pages of a size are what All has of a stream, and Last is how many, less one.
func isTogether(t *testing.T, what string, s *Store, stream string, size int) {
	t.Helper()
	l, e := s.All()
	is(t, "All", e, api.OK)
	l = slices.DeleteFunc(l, func(one api.Told) bool { return one.Stream != stream })
	what = fmt.Sprintf("%s: %q, %d at most", what, stream, size)
	up, down := together(t, s, stream, size)
	tells(t, what+": up", up, api.OK, l)
	n, e := s.Last(stream)
	number(t, what+": Last", n, e, len(l)-1, api.OK)
	slices.Reverse(l)
	tells(t, what+": down", down, api.OK, l)
}

func TestPagesTogether(t *testing.T) {
	for _, seed := range []uint64{0, 1} {
		for _, way := range ways() {
			s, _, p := led(t, seed, way, story())
			for _, stream := range p.streams() {
				for _, size := range []int{1, 2, 3, 7, p.last(stream) + 1, p.last(stream) + 2, math.MaxInt} {
					isTogether(t, fmt.Sprintf("the seed %d, the way %v", seed, way), s, stream, max(size, 1))
				}
			}
		}
	}
}

// TestStreamsOfOneHash has streams of which many have the same versions: by the seed 0 all have one hash, by another seed each has its own.
func TestStreamsOfOneHash(t *testing.T) {
	for _, seed := range []uint64{0, 9} {
		d := made(t, 200000, nil)
		s := opened(t, "a new disk", d, seed)
		var p plain
		for i := range 120 {
			p = appends(t, s, p, fmt.Sprint("stream ", i%40), some(1+i%3))
			if i%25 == 24 {
				is(t, "Index", s.Index(), api.OK)
			}
		}
		answers(t, "forty streams", s, p)
		answers(t, "opened again", opened(t, "opened again", d, seed), p)
	}
	if hashes.Hash(0, "stream 1") != hashes.Hash(0, "stream 2") || hashes.Hash(9, "stream 1") == hashes.Hash(9, "stream 2") {
		t.Fatal("by the seed 0 alone hashes are to be alike")
	}
}

// TestWhatWasFlushed lets the disk crash behind Flush or Index and some Appends more, with each number of bytes kept: what is there is cut where an Append was.
func TestWhatWasFlushed(t *testing.T) {
	for what, do := range map[string]func(s *Store) api.Errno{"Flush": (*Store).Flush, "Index": (*Store).Index} {
		for keep := 0; ; keep++ {
			d := made(t, 60000, nil)
			s := opened(t, "a new disk", d, 1)
			var p plain
			p = appends(t, s, p, "a", some(2))
			p = appends(t, s, p, "b", some(1))
			is(t, what, do(s), api.OK)
			there, whole := len(p), 0
			for n := range 3 {
				p = appends(t, s, p, "a", some(n+1))
				payload, _ := batches.Put(p[len(p)-1])
				if whole += len(payload) + 12; keep >= whole {
					there = len(p)
				}
			}
			crash(t, d, keep)
			for range 2 {
				s = opened(t, "behind the crash", d, 1)
				answers(t, fmt.Sprintf("behind %s, with %d bytes kept", what, keep), s, p[:there])
			}
			if keep > whole {
				break
			}
		}
	}
}

// walker leads a store over a disk that crashes, and whose index is spoilt.
type walker struct {
	t    *testing.T
	r    *rand.Rand
	what string
	d    *disk.Disk
	s    *Store
	seed uint64
	p    plain // what may be there
	sure int   // how many batches are sure
	down int   // how often the disk went down
	less int   // how often something was lost
	full int   // how often there was no room
	anew int   // how often the index was made anew
}

// keep is how many bytes of each file a crash keeps.
func (w *walker) keep() []int {
	var l []int
	for range 90 {
		l = append(l, w.r.Intn(400)-80)
	}
	return l
}

// open starts the disk, if it is down, and opens the store; where it goes down once more, it does so again.
func (w *walker) open() {
	w.t.Helper()
	lost := !w.d.Up()
	for {
		if !w.d.Up() {
			w.down++
			is(w.t, w.what+": Start", w.d.Start(), api.OK)
		}
		s, e := Open(w.d, w.seed, rate)
		if e == api.OK {
			w.s = s
			break
		}
		is(w.t, w.what+": Open", e, api.ErrDown)
		lost = true
	}
	if w.s.Manifest().Next == 0 && w.sure > 0 {
		w.anew++
	}
	l, e := w.s.All()
	is(w.t, w.what+": All", e, api.OK)
	n := len(w.p)
	for n > 0 && len(w.p[:n].all()) > len(l) {
		n--
	}
	tells(w.t, w.what+": what is there", l, e, w.p[:n].all())
	if n < w.sure || n < len(w.p) && !lost {
		w.t.Fatalf("%s: %d batches are there, %d of %d were sure", w.what, n, w.sure, len(w.p))
	}
	if n < len(w.p) {
		w.less++
	}
	w.p, w.sure = w.p[:n], n
}

// batch is a stream, a version that may be expected of it, and events, of which few have something wrong.
func (w *walker) batch() (stream string, expected int, l []api.Event) {
	stream = []string{"a", "b", "c", "a\x00", "", strings.Repeat("a", 33)}[min(w.r.Intn(60), w.r.Intn(6))%6]
	expected = []int{-3, -2, -2, -2, -1, 0, 3, w.p.last(stream), w.p.last(stream), w.p.last(stream)}[w.r.Intn(10)]
	l = some(1 + w.r.Intn(8))
	if w.r.Intn(20) == 0 {
		l = lists()[w.r.Intn(len(lists()))]
	}
	return stream, expected, l
}

// append appends to a stream, or is refused.
func (w *walker) append() {
	w.t.Helper()
	stream, expected, l := w.batch()
	want := wrong(w.p, stream, expected, l)
	q := w.p.and(stream, l)
	free := w.d.Free()
	n, e := w.s.Append(stream, expected, l)
	what := fmt.Sprintf("%s: Append(%q, %d)", w.what, stream, expected)
	switch {
	case want != api.OK:
		number(w.t, what, n, e, 0, want)
	case e == api.ErrDown:
		w.p = q
	case e == api.ErrFull:
		payload, _ := batches.Put(q[len(w.p)])
		if free-len(payload)-24 >= 6000 || n != 0 {
			w.t.Fatalf("%s: %d, %v, with %d bytes free", what, n, e, free)
		}
		w.full++
	default:
		number(w.t, what, n, e, q[len(w.p)].First, api.OK)
		w.p = q
	}
}

// spoil overwrites files of the index, or cuts them off: filters at any time, others where the store is not open.
func (w *walker) spoil(open bool) {
	w.t.Helper()
	for _, name := range w.d.Names() {
		if name[0] != 'b' && (open || name[0] == 'c') || w.r.Intn(4) != 0 {
			continue
		}
		size, e := w.d.Size(name)
		is(w.t, "Size", e, api.OK)
		s, e := w.d.Read(name, 0, size)
		is(w.t, "Read", e, api.OK)
		switch i := w.r.Intn(max(size, 1)); w.r.Intn(3) {
		case 0:
			is(w.t, "Cut", w.d.Cut(name, i), api.OK)
		case 1:
			is(w.t, "Spoil", w.d.Spoil(name, i, strings.Repeat("\xff", 1+w.r.Intn(9))), api.OK)
		default:
			if size > 0 {
				is(w.t, "Spoil", w.d.Spoil(name, i, string([]byte{^s[i]})), api.OK)
			}
		}
	}
}

// step is one more thing that is done.
func (w *walker) step() {
	w.t.Helper()
	flushed := func(e api.Errno) {
		w.t.Helper()
		switch e {
		case api.OK:
			w.sure = len(w.p)
		case api.ErrFull:
			w.full++
		case api.ErrDown:
		default:
			w.t.Fatalf("%s: %v", w.what, e)
		}
	}
	switch k := w.r.Intn(30); {
	case k < 14:
		w.append()
	case k < 16:
		flushed(w.s.Flush())
	case k < 19:
		flushed(w.s.Index())
	case k < 22:
		if e := w.s.Merge(w.r.Intn(5)); e != api.OK && e != api.ErrNone && e != api.ErrFull && e != api.ErrDown {
			w.t.Fatalf("%s: Merge: %v", w.what, e)
		}
	case k < 24:
		is(w.t, "Fail", w.d.Fail(w.r.Intn(25), w.keep()), api.OK)
	case k < 25:
		is(w.t, "Crash", w.d.Crash(w.keep()), api.OK)
	case k < 26:
		w.spoil(true)
	case k < 27:
		w.spoil(false)
		if w.r.Intn(2) == 0 {
			w.seed = uint64(w.r.Intn(3))
		}
		w.open()
	case k < 28:
		is(w.t, "Fail", w.d.Fail(w.r.Intn(6), w.keep()), api.OK)
		w.open()
	default:
		w.open()
	}
	if !w.d.Up() {
		w.open()
	}
}

// holds holds what the store says against what it is to say, of one stream by pages of all kinds.
func (w *walker) holds() {
	w.t.Helper()
	l, e := w.s.All()
	tells(w.t, w.what+": All", l, e, w.p.all())
	streams := w.p.streams()
	for _, stream := range streams {
		n, e := w.s.Last(stream)
		number(w.t, fmt.Sprintf("%s: Last(%q)", w.what, stream), n, e, w.p.last(stream), api.OK)
	}
	stream := streams[w.r.Intn(len(streams))]
	isTogether(w.t, w.what, w.s, stream, 1+w.r.Intn(9))
	pages(w.t, w.what, w.s, w.p, stream, w.r.Intn(40), 1+w.r.Intn(40))
}

// TestWalks holds what a store says behind each step, of which some find no room, and many are cut off by crashes.
func TestWalks(t *testing.T) {
	r := rand.New(rand.NewSource(26))
	down, less, full, anew := 0, 0, 0, 0
	for n := range 60 {
		w := &walker{t: t, r: r, d: made(t, 6500+r.Intn(7000), nil), seed: uint64(r.Intn(3))}
		w.open()
		for at := range 80 {
			w.what = fmt.Sprintf("walk %d, step %d", n, at)
			w.step()
			w.holds()
		}
		down, less, full, anew = down+w.down, less+w.less, full+w.full, anew+w.anew
	}
	if down < 200 || less < 50 || full < 100 || anew < 100 {
		t.Fatalf("the disk went down %d times, %d times something was lost, %d times there was no room, %d indexes were made anew", down, less, full, anew)
	}
}

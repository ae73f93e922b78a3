package store

import (
	"fmt"
	"maps"
	"math"
	"slices"
	"strconv"
	"strings"
	"testing"

	"annalist/api"
	"annalist/batches"
	"annalist/disk"
	"annalist/indexmap"
	"annalist/rebuild"
	"annalist/tflog"
)

// rate is that of most stores here.
const rate = 0.01

// some is so many events, of all kinds of Weights.
func some(n int) []api.Event {
	kinds := []float64{0, math.Copysign(0, -1), math.NaN(), math.Float64frombits(0x7ff8000000000123), math.Inf(1), math.Inf(-1), 1.5, -2}
	var l []api.Event
	for i := range n {
		l = append(l, api.Event{Type: "done", Data: strings.Repeat("x", i*n), Weight: kinds[(i+n)%len(kinds)]})
	}
	return l
}

// plain is what a store is to say, by a list alone: batches, as they were appended.
type plain []api.Batch

// and is these batches, and one more.
func (p plain) and(stream string, l []api.Event) plain {
	return append(slices.Clip(p), api.Batch{Stream: stream, First: p.last(stream) + 1, Events: l})
}

// all is all events, in order.
func (p plain) all() []api.Told {
	var l []api.Told
	for _, b := range p {
		for i, event := range b.Events {
			l = append(l, api.Told{Stream: b.Stream, Version: b.First + i, Event: event})
		}
	}
	return l
}

// of is all events of a stream.
func (p plain) of(stream string) []api.Told {
	return slices.DeleteFunc(p.all(), func(one api.Told) bool { return one.Stream != stream })
}

// last is the last version of a stream.
func (p plain) last(stream string) int {
	last := -1
	for _, one := range p.of(stream) {
		last = max(last, one.Version)
	}
	return last
}

// forward and backward are a page each, event by event.
func (p plain) forward(stream string, from, count int) []api.Told {
	var l []api.Told
	for _, one := range p.of(stream) {
		if one.Version >= from && len(l) < count {
			l = append(l, one)
		}
	}
	return l
}

func (p plain) backward(stream string, from, count int) []api.Told {
	var l []api.Told
	for _, one := range p.of(stream) {
		if one.Version <= from && one.Version > from-count {
			l = append([]api.Told{one}, l...)
		}
	}
	return l
}

// streams are the names of all streams, each once, and of some that are not there.
func (p plain) streams() []string {
	l := []string{"z", "a\x00\x00", strings.Repeat("z", 32)}
	for _, b := range p {
		if !slices.Contains(l, b.Stream) {
			l = append(l, b.Stream)
		}
	}
	return l
}

// show is events as a failure tells them; two lists are alike, if this is: Weights go by their bits.
func show(l []api.Told) string {
	var s strings.Builder
	for _, one := range l {
		fmt.Fprintf(&s, "[%q %d: %q %q %x]", one.Stream, one.Version, one.Event.Type, one.Event.Data, math.Float64bits(one.Event.Weight))
	}
	return s.String()
}

// shown is a manifest likewise, without empty levels at the end.
func shown(m api.Manifest) string {
	for len(m.Levels) > 0 && len(m.Levels[len(m.Levels)-1]) == 0 {
		m.Levels = m.Levels[:len(m.Levels)-1]
	}
	return fmt.Sprintf("[Next %d, Check %d, Seed %d: %v]", m.Next, m.Check, m.Seed, m.Levels)
}

// is holds an error against the one that is to be.
func is(t *testing.T, what string, got, want api.Errno) {
	t.Helper()
	if got != want {
		t.Fatalf("%s: %v, not %v", what, got, want)
	}
}

// number holds a number and an error against these that are to be.
func number(t *testing.T, what string, n int, e api.Errno, want int, wantE api.Errno) {
	t.Helper()
	if n != want || e != wantE {
		t.Fatalf("%s: %d, %v, not %d, %v", what, n, e, want, wantE)
	}
}

// tells holds a list against the one that is to be.
func tells(t *testing.T, what string, l []api.Told, e api.Errno, want []api.Told) {
	t.Helper()
	if e != api.OK || show(l) != show(want) {
		t.Fatalf("%s: %.900s, %v, not %.900s", what, show(l), e, show(want))
	}
}

// refuses holds that there is an error, and no list beside it.
func refuses(t *testing.T, what string, l []api.Told, e, want api.Errno) {
	t.Helper()
	if len(l) != 0 || e != want {
		t.Fatalf("%s: %.900s, %v, not %v", what, show(l), e, want)
	}
}

// made is a new disk, with some files, that are sure.
func made(t *testing.T, capacity int, with map[string]string) *disk.Disk {
	t.Helper()
	d, e := disk.New(capacity)
	is(t, "disk.New", e, api.OK)
	for _, name := range slices.Sorted(maps.Keys(with)) {
		lays(t, d, name, with[name])
	}
	return d
}

// lays puts a file on a disk, in the place of one that was; its bytes are sure.
func lays(t *testing.T, d *disk.Disk, name, s string) {
	t.Helper()
	d.Delete(name)
	for _, e := range []api.Errno{d.Create(name), d.Append(name, s), d.Sync(name)} {
		is(t, "lay the file "+strconv.Quote(name), e, api.OK)
	}
}

// files are all files of a disk that is up, with their bytes.
func files(t *testing.T, d *disk.Disk) map[string]string {
	t.Helper()
	m := map[string]string{}
	for _, name := range d.Names() {
		n, e := d.Size(name)
		is(t, "Size", e, api.OK)
		m[name], e = d.Read(name, 0, n)
		is(t, "Read", e, api.OK)
	}
	return m
}

// has holds the files of a disk that is up against some.
func has(t *testing.T, what string, d *disk.Disk, want map[string]string) {
	t.Helper()
	if got := files(t, d); !maps.Equal(got, want) {
		t.Fatalf("%s: the disk has %.900q, not %.900q", what, got, want)
	}
}

// crash takes a disk down and up, with so many bytes kept of what was not sure in each file.
func crash(t *testing.T, d *disk.Disk, keep int) {
	t.Helper()
	is(t, "Crash", d.Crash(slices.Repeat([]int{keep}, 400)), api.OK)
	is(t, "Start", d.Start(), api.OK)
}

// logs puts batches into the log of a disk, beside a store, whatever their versions are, and is their places.
func logs(t *testing.T, d *disk.Disk, l ...api.Batch) []int {
	t.Helper()
	log, e := tflog.Open(d)
	is(t, "tflog.Open", e, api.OK)
	var places []int
	for _, b := range l {
		s, e := batches.Put(b)
		is(t, "batches.Put", e, api.OK)
		pos, e := log.Append(s)
		is(t, "tflog.Append", e, api.OK)
		places = append(places, pos)
	}
	return places
}

// payloads are the records of the log that some files have.
func payloads(t *testing.T, with map[string]string) []string {
	t.Helper()
	log, e := tflog.Open(made(t, api.MaxDisk, with))
	is(t, "tflog.Open", e, api.OK)
	var l []string
	for pos := 0; ; {
		payload, _, next, e := log.Next(pos)
		if e == api.ErrNone {
			return l
		}
		is(t, "tflog.Next", e, api.OK)
		l, pos = append(l, payload), next
	}
}

// lastChunk is the name of the log's last chunk.
func lastChunk(d *disk.Disk) string {
	last := ""
	for _, name := range d.Names() {
		if name[0] == 'c' {
			last = name
		}
	}
	return last
}

// opened is the store of a disk, where Open has to be OK.
func opened(t *testing.T, what string, d *disk.Disk, seed uint64) *Store {
	t.Helper()
	s, e := Open(d, seed, rate)
	if s == nil || e != api.OK {
		t.Fatalf("%s: Open: %v, %v", what, s, e)
	}
	return s
}

// refused holds what Open tells against an error, and nothing beside it.
func refused(t *testing.T, what string, d *disk.Disk, seed uint64, want api.Errno) {
	t.Helper()
	if s, e := Open(d, seed, rate); s != nil || e != want {
		t.Fatalf("%s: Open: %v, %v, not %v", what, s, e, want)
	}
}

// appends appends to a store, where that has to be OK, and is what it is to say then.
func appends(t *testing.T, s *Store, p plain, stream string, l []api.Event) plain {
	t.Helper()
	q := p.and(stream, l)
	n, e := s.Append(stream, p.last(stream), l)
	number(t, "Append", n, e, q[len(p)].First, api.OK)
	return q
}

// answers holds all that a store says against what it is to say.
func answers(t *testing.T, what string, s *Store, p plain) {
	t.Helper()
	l, e := s.All()
	tells(t, what+": All", l, e, p.all())
	for _, stream := range p.streams() {
		last := p.last(stream)
		n, e := s.Last(stream)
		number(t, fmt.Sprintf("%s: Last(%q)", what, stream), n, e, last, api.OK)
		for _, c := range [][2]int{{0, math.MaxInt}, {last + 1, 2}, {max(last, 0), last + 1}, {1, 3}, {math.MaxInt, 1}} {
			pages(t, what, s, p, stream, c[0], max(c[1], 1))
		}
	}
}

// pages holds a page up, and one down, against what is to be told.
func pages(t *testing.T, what string, s *Store, p plain, stream string, from, count int) {
	t.Helper()
	what = fmt.Sprintf("%s: %q, from %d, %d at most", what, stream, from, count)
	l, e := s.Forward(stream, from, count)
	tells(t, what+": Forward", l, e, p.forward(stream, from, count))
	l, e = s.Backward(stream, from, count)
	tells(t, what+": Backward", l, e, p.backward(stream, from, count))
}

// story is batches of streams whose names are alike in all but their length, or one byte.
func story() []api.Batch {
	names := []string{"a", "b", "a\x00", strings.Repeat("a", 32), "t000000", "\xff", "a", "b", "a"}
	var p plain
	for i := range 27 {
		p = p.and(names[i*i%len(names)], some(1+i*5%8))
	}
	return p
}

// ways are where a store's events may lie: behind how many batches each Index is asked (0: never), and behind how many tables Merge of both upper levels.
func ways() [][2]int { return [][2]int{{0, 0}, {27, 0}, {1, 0}, {2, 0}, {2, 3}, {1, 2}, {5, 2}} }

// led is a store to which a story was appended in one of these ways, its disk, and what it is to say.
func led(t *testing.T, seed uint64, way [2]int, story []api.Batch) (s *Store, d *disk.Disk, p plain) {
	t.Helper()
	d = made(t, 90000, nil)
	s = opened(t, "a new disk", d, seed)
	for i, b := range story {
		p = appends(t, s, p, b.Stream, b.Events)
		if way[0] == 0 || (i+1)%way[0] != 0 {
			continue
		}
		is(t, "Index", s.Index(), api.OK)
		if way[1] != 0 && (i+1)/way[0]%way[1] == 0 {
			is(t, "Merge", s.Merge(0), api.OK)
			is(t, "Merge", s.Merge(1), api.OK)
		}
	}
	return s, d, p
}

// none are stores that Open did not make.
func none(t *testing.T) []*Store {
	t.Helper()
	s, _, _ := led(t, 3, [2]int{2, 0}, story()[:3])
	noStore := *s
	return []*Store{nil, {}, &noStore}
}

// TestExamples is the chapter's.
func TestExamples(t *testing.T) {
	s := opened(t, "a new disk", made(t, 60000, nil), 0)
	n, e := s.Append("s", -1, some(2))
	number(t, "Append", n, e, 0, api.OK)
	n, e = s.Append("s", -1, some(1))
	number(t, "Append again", n, e, 0, api.ErrVersion)
	n, e = s.Append("s", 1, some(1))
	number(t, "Append behind it", n, e, 2, api.OK)
	n, e = s.Last("s")
	number(t, "Last", n, e, 2, api.OK)
	all := slices.Concat(some(2), some(1))
	told := func(versions ...int) []api.Told {
		var l []api.Told
		for _, n := range versions {
			l = append(l, api.Told{Stream: "s", Version: n, Event: all[n]})
		}
		return l
	}
	l, e := s.Forward("s", 1, 9)
	tells(t, "Forward", l, e, told(1, 2))
	l, e = s.Backward("s", 1, 9)
	tells(t, "Backward", l, e, told(1, 0))
}

// TestExamplesOfTheWhole are the document's ten.
func TestExamplesOfTheWhole(t *testing.T) {
	d := made(t, 60000, nil)
	s := opened(t, "a new disk", d, 0)
	var p plain
	p = appends(t, s, p, "a", some(1))
	p = appends(t, s, p, "b", some(1))
	n, e := s.Append("a", -1, some(1))
	number(t, "Append again", n, e, 0, api.ErrVersion)
	n, e = s.Last("a")
	number(t, "Last(a)", n, e, 0, api.OK)
	n, e = s.Last("c")
	number(t, "Last(c)", n, e, -1, api.OK)
	is(t, "Index", s.Index(), api.OK)
	levels(t, s, []int{0})
	p = appends(t, s, p, "b", some(2))
	is(t, "Index", s.Index(), api.OK)
	levels(t, s, []int{0, 1})
	is(t, "Merge", s.Merge(0), api.OK)
	levels(t, s, nil, []int{2})
	is(t, "Merge", s.Merge(0), api.ErrNone)
	pages(t, "versions 1 and 2; 1 and 0", s, p, "b", 1, 9)
	n, e = s.Append("a", 0, some(1))
	number(t, "Append", n, e, 1, api.OK)
	crash(t, d, 0)
	s = opened(t, "behind the crash", d, 0)
	answers(t, "behind the crash", s, p)
	is(t, "Cut", d.Cut("t000002", 20), api.OK)
	s = opened(t, "a table is cut off", d, 0)
	answers(t, "a table is cut off", s, p)
	for range 3 {
		p = appends(t, s, p, "a", some(1))
		is(t, "Index", s.Index(), api.OK)
	}
	is(t, "Spoil", d.Spoil("b000002", 0, strings.Repeat("x", 99)), api.OK)
	answers(t, "a filter is overwritten", s, p)
	p = appends(t, s, p, "c", some(3))
	// The filter's file takes three changes, the table's three, the manifest's four, behind the log's one.
	is(t, "Fail", d.Fail(7, nil), api.OK)
	is(t, "Index", s.Index(), api.ErrDown)
	is(t, "Start", d.Start(), api.OK)
	if _, e := d.Size("t000003"); e != api.OK {
		t.Fatalf("the table was not laid: %v", e)
	}
	s = opened(t, "down between a table and its manifest", d, 0)
	if _, e := d.Size("t000003"); e != api.ErrNone {
		t.Fatalf("the table is there still: %v", e)
	}
	answers(t, "down between a table and its manifest", s, p)
}

// levels holds which tables there are, also as the disk has it.
func levels(t *testing.T, s *Store, want ...[]int) {
	t.Helper()
	m := s.Manifest()
	m.Next, m.Check, m.Seed = 0, 0, 0
	if shown(m) != shown(api.Manifest{Levels: want}) {
		t.Fatalf("the levels are %v, not %v", m.Levels, want)
	}
}

// P26.1

// TestOpen opens what lies there in all ways, again and again, by other seeds and rates: it says the same.
func TestOpen(t *testing.T) {
	for _, way := range ways() {
		_, d, p := led(t, 1, way, story())
		for _, c := range []struct {
			seed uint64
			rate float64
		}{{1, rate}, {1, 0.5}, {0, rate}, {0, math.NaN()}, {math.MaxUint64, math.Inf(1)}, {1, -1}, {1, 0}, {1, 1}} {
			s, e := Open(d, c.seed, c.rate)
			is(t, "Open", e, api.OK)
			what := fmt.Sprintf("the way %v, opened by %v", way, c)
			answers(t, what, s, p)
			p = appends(t, s, p, "b", some(3))
			answers(t, what+", and more", s, p)
			is(t, "Index", s.Index(), api.OK)
		}
	}
}

// TestRates has the index's filters made by the rate that was handed in.
func TestRates(t *testing.T) {
	for _, rate := range []float64{0, 1, 0.5, 0.001, -1, math.Inf(1), math.Inf(-1), math.NaN()} {
		d, other := made(t, 90000, nil), made(t, 90000, nil)
		s, e := Open(d, 1, rate)
		is(t, "Open", e, api.OK)
		var p plain
		for _, b := range story() {
			p = appends(t, s, p, b.Stream, b.Events)
		}
		is(t, "Index", s.Index(), api.OK)
		logs(t, other, p...)
		log, e := tflog.Open(other)
		is(t, "tflog.Open", e, api.OK)
		x, _, e := rebuild.Open(other, log, 1, rate)
		is(t, "rebuild.Open", e, api.OK)
		is(t, "index.Flush", x.Flush(log), api.OK)
		has(t, fmt.Sprint("the rate ", rate), d, files(t, other))
		answers(t, fmt.Sprint("the rate ", rate), s, p)
	}
}

func TestOpenOfANewDisk(t *testing.T) {
	for _, capacity := range []int{0, 1, 5999, 60000} {
		d := made(t, capacity, nil)
		s := opened(t, "a new disk", d, 5)
		answers(t, "a new disk", s, nil)
		if m := s.Manifest(); shown(m) != shown(api.Manifest{Seed: 5}) {
			t.Fatalf("the manifest is %s", shown(m))
		}
		has(t, "a new disk", d, nil)
	}
}

func TestOpenOfNoDisk(t *testing.T) {
	noDisk := *made(t, 60000, nil)
	for _, d := range []*disk.Disk{nil, {}, &noDisk} {
		refused(t, "no disk", d, 1, api.ErrNil)
	}
	_, d, p := led(t, 1, [2]int{2, 3}, story())
	is(t, "Crash", d.Crash(slices.Repeat([]int{9999}, 99)), api.OK)
	refused(t, "a disk that is down", d, 1, api.ErrDown)
	is(t, "Start", d.Start(), api.OK)
	answers(t, "it is up again", opened(t, "it is up again", d, 1), p)
}

// TestOpenOfABrokenLog has the errors of tflog.Open, and of rebuild.Open.
func TestOpenOfABrokenLog(t *testing.T) {
	s, d, p := led(t, 1, [2]int{2, 3}, story())
	is(t, "Flush", s.Flush(), api.OK)
	whole := files(t, d)
	if len(payloads(t, whole)) != len(p) || whole["c000001"] == "" {
		t.Fatalf("%d records, %d bytes in the second chunk", len(payloads(t, whole)), len(whole["c000001"]))
	}
	is(t, "Delete", d.Delete("c000000"), api.OK)
	refused(t, "a chunk is gone", d, 1, api.ErrBroke)
	lays(t, d, "c000000", "x"+whole["c000000"][1:])
	refused(t, "a chunk's head is spoilt", d, 1, api.ErrBroke)
	lays(t, d, "c000000", whole["c000000"])
	answers(t, "it is whole again", opened(t, "it is whole again", d, 1), p)
	log, e := tflog.Open(d)
	is(t, "tflog.Open", e, api.OK)
	_, e = log.Append("no batch")
	is(t, "tflog.Append", e, api.OK)
	refused(t, "a record that is no batch", d, 1, api.ErrBroke)
	refused(t, "a record that is no batch", d, 2, api.ErrBroke)
}

// TestOpenFails lets each change of Open fail: nothing is lost.
func TestOpenFails(t *testing.T) {
	for n := 0; ; n++ {
		s, d, p := led(t, 1, [2]int{5, 0}, story())
		is(t, "Flush", s.Flush(), api.OK)
		for name, bytes := range map[string]string{"new": "left", "t000009": "", "b000099": "x", "map": "spoilt"} {
			lays(t, d, name, bytes)
		}
		is(t, "Append", d.Append(lastChunk(d), "half a record"), api.OK)
		is(t, "Fail", d.Fail(n, []int{0, 7, 7, 7}), api.OK)
		what := fmt.Sprintf("the change %d fails", n)
		s, e := Open(d, 1, rate)
		if e == api.OK {
			answers(t, what, s, p)
			if n < 15 {
				t.Fatalf("Open made %d changes", n)
			}
			return
		}
		if s != nil || e != api.ErrDown || d.Up() {
			t.Fatalf("%s: Open: %v, %v", what, s, e)
		}
		is(t, "Start", d.Start(), api.OK)
		answers(t, what, opened(t, what, d, 1), p)
	}
}

// TestOpenOfSpoiltIndexes has one file of the index overwritten, cut off, or gone.
func TestOpenOfSpoiltIndexes(t *testing.T) {
	_, d, p := led(t, 1, [2]int{5, 0}, story())
	whole := files(t, d)
	for _, name := range []string{"map", "t000000", "t000003", "b000000", "b000003"} {
		for i := range len(whole[name]) {
			if i > 40 && i%29 != 0 {
				continue
			}
			for _, s := range []string{whole[name][:i], whole[name][:i] + string([]byte{^whole[name][i]}) + whole[name][i+1:]} {
				for other := range whole {
					if other[0] != 'c' {
						lays(t, d, other, whole[other])
					}
				}
				lays(t, d, name, s)
				what := fmt.Sprintf("%s is spoilt at %d", name, i)
				store := opened(t, what, d, 1)
				if anew := store.Manifest().Next == 0; anew != (name[0] != 'b') {
					t.Fatalf("%s: the index was made anew: %v", what, anew)
				}
				answers(t, what, store, p)
			}
		}
	}
}

func TestNoStore(t *testing.T) {
	for _, s := range none(t) {
		for _, stream := range []string{"a", "", strings.Repeat("a", 33)} {
			for _, from := range []int{0, -1, math.MinInt, math.MaxInt} {
				n, e := s.Append(stream, from, some(1))
				number(t, "Append", n, e, 0, api.ErrNil)
				n, e = s.Append(stream, from, nil)
				number(t, "Append", n, e, 0, api.ErrNil)
				l, e := s.Forward(stream, from, 1)
				refuses(t, "Forward", l, e, api.ErrNil)
				l, e = s.Backward(stream, from, 0)
				refuses(t, "Backward", l, e, api.ErrNil)
				is(t, "Merge", s.Merge(from), api.ErrNil)
			}
			n, e := s.Last(stream)
			number(t, "Last", n, e, -1, api.ErrNil)
		}
		l, e := s.All()
		refuses(t, "All", l, e, api.ErrNil)
		is(t, "Flush", s.Flush(), api.ErrNil)
		is(t, "Index", s.Index(), api.ErrNil)
		if m := s.Manifest(); m.Levels != nil || shown(m) != shown(api.Manifest{}) {
			t.Fatalf("Manifest: %s", shown(m))
		}
	}
}

// loads holds the manifest that lies on a disk against one.
func loads(t *testing.T, what string, d *disk.Disk, want api.Manifest) {
	t.Helper()
	m, e := indexmap.Load(d)
	if e != api.OK || shown(m) != shown(want) {
		t.Fatalf("%s: the disk has the manifest %s, %v, not %s", what, shown(m), e, shown(want))
	}
}

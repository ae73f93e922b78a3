package store

import (
	"fmt"
	"math"
	"slices"
	"strings"
	"testing"

	"annalist/api"
	"annalist/disk"
	"annalist/hashes"
	"annalist/indexmap"
	"annalist/ptables"
	"annalist/tflog"
)

// P26.3

// TestPages asks for pages of each stream from each version on and down, of many sizes, wherever the events lie.
func TestPages(t *testing.T) {
	for _, seed := range []uint64{0, 1, math.MaxUint64} {
		for _, way := range ways() {
			s, _, p := led(t, seed, way, story())
			what := fmt.Sprintf("the seed %d, the way %v", seed, way)
			answers(t, what, s, p)
			for _, stream := range []string{"a", "a\x00", "z"} {
				last := p.last(stream)
				for from := range last + 4 {
					for _, count := range []int{1, 2, 5, last + 1, last + 2, api.MaxVersion - 1, api.MaxVersion, api.MaxVersion + 1, math.MaxInt - 1, math.MaxInt} {
						pages(t, what, s, p, stream, from, max(count, 1))
					}
				}
				for _, from := range []int{api.MaxVersion - 1, api.MaxVersion, api.MaxVersion + 1, 1 << 32, math.MaxInt - 1, math.MaxInt} {
					for _, count := range []int{1, 9, from - 2, from - max(last, 0), from, math.MaxInt} {
						pages(t, what, s, p, stream, from, count)
					}
				}
			}
		}
	}
}

// TestWhatMayNotBeAsked has names that are none, versions below 0, and pages without room.
func TestWhatMayNotBeAsked(t *testing.T) {
	s, _, p := led(t, 0, [2]int{2, 3}, story())
	for _, stream := range []string{"", strings.Repeat("a", 33), strings.Repeat("a", 1000), "a", "z"} {
		may := len(stream) >= 1 && len(stream) <= 32
		if !may {
			n, e := s.Last(stream)
			number(t, "Last of no stream", n, e, -1, api.ErrArg)
		}
		for _, from := range []int{math.MinInt, -2, -1, 0, 1} {
			for _, count := range []int{math.MinInt, -1, 0, 1, 2} {
				if may && from >= 0 && count >= 1 {
					continue
				}
				what := fmt.Sprintf("%.40q, from %d, %d at most", stream, from, count)
				l, e := s.Forward(stream, from, count)
				refuses(t, what+": Forward", l, e, api.ErrArg)
				l, e = s.Backward(stream, from, count)
				refuses(t, what+": Backward", l, e, api.ErrArg)
			}
		}
	}
	answers(t, "behind all that", s, p)
}

// TestListsAreTheCallers has each list that is told overwritten.
func TestListsAreTheCallers(t *testing.T) {
	s, _, p := led(t, 0, [2]int{5, 0}, story())
	for range 2 {
		all, _ := s.All()
		up, _ := s.Forward("a", 0, 99)
		again, _ := s.Forward("a", 0, 99)
		down, _ := s.Backward("a", 99, 100)
		for _, l := range [][]api.Told{all, up, down} {
			for i := range l {
				l[i] = api.Told{Stream: "other", Version: -1}
			}
			_ = append(l[:0], api.Told{})
		}
		tells(t, "a list told ahead", again, api.OK, p.of("a"))
		answers(t, "lists were overwritten", s, p)
	}
}

// TestAskingChangesNothing has a failure set for the next change: none comes.
func TestAskingChangesNothing(t *testing.T) {
	for _, way := range ways() {
		s, d, p := led(t, 1, way, story())
		had, m, unsynced := files(t, d), s.Manifest(), d.Unsynced()
		is(t, "Fail", d.Fail(0, nil), api.OK)
		answers(t, "the next change fails", s, p)
		has(t, "it was asked", d, had)
		if !slices.Equal(d.Unsynced(), unsynced) || shown(s.Manifest()) != shown(m) {
			t.Fatalf("%v is not sure, not %v; the manifest is %s, not %s", d.Unsynced(), unsynced, shown(s.Manifest()), shown(m))
		}
	}
}

// TestReads counts what a page reads: of each table at most five times, and three times for each event of its versions, also another stream's of the same hash.
func TestReads(t *testing.T) {
	for _, seed := range []uint64{0, 1} {
		for _, way := range ways() {
			s, d, p := led(t, seed, way, story())
			tables := len(slices.Concat(s.Manifest().Levels...))
			for _, stream := range p.streams() {
				for from := range 30 {
					for _, count := range []int{1, 3, 99} {
						up, down := 0, 0
						for _, one := range p.all() {
							if hashes.Hash(seed, one.Stream) != hashes.Hash(seed, stream) {
								continue
							}
							if one.Version >= from && one.Version < from+count {
								up++
							}
							if one.Version <= from && one.Version > from-count {
								down++
							}
						}
						what := fmt.Sprintf("the seed %d, the way %v: %q, from %d, %d at most", seed, way, stream, from, count)
						had := d.Reads()
						s.Forward(stream, from, count)
						if n := d.Reads() - had; n > 5*tables+3*up {
							t.Fatalf("%s: Forward read %d times, with %d tables and %d events", what, n, tables, up)
						}
						had = d.Reads()
						s.Backward(stream, from, count)
						if n := d.Reads() - had; n > 5*tables+3*down {
							t.Fatalf("%s: Backward read %d times, with %d tables and %d events", what, n, tables, down)
						}
					}
				}
			}
		}
	}
}

// indexed is a store beside whose log there is a table of some entries, and nothing else of an index.
func indexed(t *testing.T, d *disk.Disk, l ...api.Entry) *Store {
	t.Helper()
	is(t, "ptables.Write", ptables.Write(d, 0, l, rate), api.OK)
	is(t, "indexmap.Swap", indexmap.Swap(d, api.Manifest{Next: 1, Check: end(t, d), Seed: 1, Levels: [][]int{{0}}}), api.OK)
	s := opened(t, "a table of some entries", d, 1)
	levels(t, s, []int{0})
	return s
}

// TestHeldAgainstTheLog has an index that tells of events that no record has: only what the log has is told.
func TestHeldAgainstTheLog(t *testing.T) {
	var p plain
	p = p.and("a", some(2)).and("b", some(4)).and("a", some(1)).and("c", some(3))
	d := made(t, 60000, nil)
	places := logs(t, d, p...)
	h := hashes.Hash(1, "a")
	var l []api.Entry
	for version := range 90 {
		for _, pos := range places {
			l = append(l, api.Entry{Hash: h, Version: version, Pos: pos})
		}
	}
	s := indexed(t, d, l...)
	n, e := s.Last("a")
	number(t, "Last", n, e, 2, api.OK)
	for from := range 9 {
		for _, count := range []int{1, 2, 3, 90, math.MaxInt} {
			pages(t, "events that no record has", s, p, "a", from, count)
		}
	}
	told, e := s.All()
	tells(t, "All", told, e, p.all())
	n, e = s.Append("a", 2, some(3))
	number(t, "Append", n, e, 3, api.OK)
	p = p.and("a", some(3))
	n, e = s.Last("a")
	number(t, "Last", n, e, 5, api.OK)
	pages(t, "behind Append", s, p, "a", 0, 90)
}

// TestLastAmongMany has a stream's last event among those of others of its hash, at all distances.
func TestLastAmongMany(t *testing.T) {
	d := made(t, 90000, nil)
	s := opened(t, "a new disk", d, 0)
	var p plain
	p = appends(t, s, p, "a", some(3))
	for n := range 80 {
		p = appends(t, s, p, "b", []api.Event{{Type: "t"}})
		if n == 40 {
			is(t, "Index", s.Index(), api.OK)
		}
		for stream, want := range map[string]int{"a": 2, "b": n, "z": -1} {
			last, e := s.Last(stream)
			number(t, fmt.Sprintf("Last(%q) among %d", stream, n), last, e, want, api.OK)
		}
	}
	answers(t, "among many", s, p)
}

// TestPlacesWithoutRecords has an index that tells of a place where no record stands: what was sure is not there.
func TestPlacesWithoutRecords(t *testing.T) {
	var p plain
	p = p.and("a", some(2))
	for _, pos := range []int{0, 11, 13, 4096 + 12, 1 << 40} {
		d := made(t, 60000, nil)
		logs(t, d, p...)
		s := indexed(t, d, api.Entry{Hash: hashes.Hash(1, "a"), Pos: pos})
		l, e := s.Forward("a", 0, 9)
		refuses(t, "Forward", l, e, api.ErrBroke)
		l, e = s.Backward("a", 9, 10)
		refuses(t, "Backward", l, e, api.ErrBroke)
		n, e := s.Last("a")
		number(t, "Last", n, e, 0, api.ErrBroke)
		n, e = s.Append("a", -1, some(1))
		number(t, "Append", n, e, 0, api.ErrBroke)
		l, e = s.Forward("a", 1, 9)
		tells(t, "Forward behind it", l, e, nil)
		l, e = s.All()
		tells(t, "All", l, e, p.all())
	}
}

// TestRecordsThatAreNoBatches come into a log behind Open, by somebody else; or an index has their places.
func TestRecordsThatAreNoBatches(t *testing.T) {
	d := made(t, 60000, nil)
	s := opened(t, "a new disk", d, 1)
	p := appends(t, s, nil, "a", some(2))
	log, e := tflog.Open(d)
	is(t, "tflog.Open", e, api.OK)
	pos, e := log.Append("no batch")
	is(t, "tflog.Append", e, api.OK)
	l, e := s.All()
	refuses(t, "All", l, e, api.ErrBroke)
	pages(t, "the index does not have its place", s, p, "a", 0, 99)
	s = indexed(t, d, api.Entry{Hash: hashes.Hash(1, "b"), Pos: pos})
	l, e = s.Forward("b", 0, 9)
	refuses(t, "Forward", l, e, api.ErrBroke)
	n, e := s.Last("b")
	number(t, "Last", n, e, 0, api.ErrBroke)
}

// TestSpoiltTables have their error told where they are spoilt while the store is open.
func TestSpoiltTables(t *testing.T) {
	s, d, p := led(t, 1, [2]int{5, 0}, story())
	is(t, "Delete", d.Delete("t000001"), api.OK)
	for _, stream := range []string{"a", "b"} {
		l, e := s.Forward(stream, 0, 99)
		refuses(t, "Forward", l, e, api.ErrTable)
		l, e = s.Backward(stream, 0, 1)
		refuses(t, "Backward", l, e, api.ErrTable)
		n, e := s.Last(stream)
		number(t, "Last", n, e, 0, api.ErrTable)
		n, e = s.Append(stream, -2, some(1))
		number(t, "Append", n, e, 0, api.ErrTable)
	}
	l, e := s.All()
	tells(t, "All", l, e, p.all())
	answers(t, "opened again", opened(t, "opened again", d, 1), p)
}

// TestSpoiltFilters changes no answer, whenever it is.
func TestSpoiltFilters(t *testing.T) {
	for _, seed := range []uint64{0, 1} {
		s, d, p := led(t, seed, [2]int{2, 0}, story())
		for n := range 13 {
			name := fmt.Sprintf("b%06d", n)
			for i, spoil := range []func() api.Errno{
				func() api.Errno { return d.Spoil(name, 11, "xyz") },
				func() api.Errno { return d.Cut(name, 70) },
				func() api.Errno { return d.Spoil(name, 0, "\x00\x00\x00\x00\x00\x00") },
				func() api.Errno { return d.Cut(name, 0) },
			} {
				is(t, "spoil", spoil(), api.OK)
				if i%2 == n%2 {
					answers(t, name+" is spoilt", s, p)
				}
				if i == n%4 {
					s = opened(t, name+" is spoilt", d, seed)
					answers(t, name+" is spoilt, and all opened", s, p)
				}
			}
		}
		is(t, "Merge", s.Merge(0), api.OK)
		answers(t, "merged", s, p)
	}
}

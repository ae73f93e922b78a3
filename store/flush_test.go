package store

import (
	"fmt"
	"math"
	"slices"
	"testing"

	"annalist/api"
	"annalist/disk"
)

// P26.4

// end is where the log of a disk ends that has chunks of whole records alone.
func end(t *testing.T, d *disk.Disk) int {
	t.Helper()
	name := lastChunk(d)
	n, e := d.Size(name)
	is(t, "Size", e, api.OK)
	var chunk int
	fmt.Sscanf(name, "c%d", &chunk)
	return chunk*4096 + n
}

// sure tells whether all bytes of a disk are.
func sure(d *disk.Disk) bool {
	return !slices.ContainsFunc(d.Unsynced(), func(n int) bool { return n != 0 })
}

// TestFlush makes all sure, and nothing else.
func TestFlush(t *testing.T) {
	for _, way := range ways() {
		s, d, p := led(t, 1, way, story())
		p = appends(t, s, p, "b", some(3))
		if sure(d) {
			t.Fatal("all is sure ahead of Flush")
		}
		had, m := files(t, d), s.Manifest()
		is(t, "Flush", s.Flush(), api.OK)
		has(t, "Flush", d, had)
		if !sure(d) || shown(s.Manifest()) != shown(m) {
			t.Fatalf("%v is not sure; the manifest is %s, not %s", d.Unsynced(), shown(s.Manifest()), shown(m))
		}
		answers(t, "behind Flush", s, p)
		is(t, "Flush again", s.Flush(), api.OK)
		crash(t, d, 0)
		answers(t, "behind a crash", opened(t, "behind a crash", d, 1), p)
	}
	s := opened(t, "a new disk", made(t, 60000, nil), 1)
	is(t, "Flush of nothing", s.Flush(), api.OK)
	answers(t, "Flush of nothing", s, nil)
}

// TestIndex makes all sure, and a table of what is in memory; of nothing it makes none.
func TestIndex(t *testing.T) {
	for _, seed := range []uint64{0, 1} {
		d := made(t, 60000, nil)
		s := opened(t, "a new disk", d, seed)
		is(t, "Index of nothing", s.Index(), api.OK)
		has(t, "Index of nothing", d, nil)
		var p plain
		m := api.Manifest{Seed: seed, Levels: [][]int{nil}}
		for i, b := range story() {
			p = appends(t, s, p, b.Stream, b.Events)
			if i%4 != 0 {
				continue
			}
			is(t, "Index", s.Index(), api.OK)
			m.Levels[0] = append(m.Levels[0], m.Next)
			m.Next, m.Check = m.Next+1, end(t, d)
			if shown(s.Manifest()) != shown(m) || !sure(d) {
				t.Fatalf("the manifest is %s, not %s; %v is not sure", shown(s.Manifest()), shown(m), d.Unsynced())
			}
			loads(t, "Index", d, m)
			answers(t, "behind Index", s, p)
			had := files(t, d)
			is(t, "Index again", s.Index(), api.OK)
			has(t, "Index again", d, had)
			if shown(s.Manifest()) != shown(m) {
				t.Fatalf("Index again: the manifest is %s, not %s", shown(s.Manifest()), shown(m))
			}
		}
		crash(t, d, 0)
		answers(t, "behind a crash", opened(t, "behind a crash", d, seed), p[:25])
	}
}

// TestMerge makes one table of those of a level, down to the last level, where it makes one of one again.
func TestMerge(t *testing.T) {
	for _, seed := range []uint64{0, 1} {
		s, d, p := led(t, seed, [2]int{3, 0}, story())
		p = appends(t, s, p, "b", some(3))
		m := s.Manifest()
		m.Levels = [][]int{{0, 1, 2, 3, 4, 5, 6, 7, 8}, nil, nil, nil, nil}
		for _, level := range []int{0, 1, 2, 3, 4, 4} {
			for _, other := range []int{0, 1, 2, 3, 4} {
				if len(m.Levels[other]) == 0 {
					is(t, "Merge of nothing", s.Merge(other), api.ErrNone)
				}
			}
			for _, other := range []int{-1, 5, math.MinInt, math.MaxInt} {
				is(t, "Merge of no level", s.Merge(other), api.ErrArg)
			}
			gone := m.Levels[level]
			m.Levels[level] = nil
			m.Levels[min(level+1, 4)] = []int{m.Next}
			m.Next++
			is(t, "Merge", s.Merge(level), api.OK)
			if shown(s.Manifest()) != shown(m) {
				t.Fatalf("the manifest is %s, not %s", shown(s.Manifest()), shown(m))
			}
			loads(t, "Merge", d, m)
			for _, n := range gone {
				if _, e := d.Size(fmt.Sprintf("t%06d", n)); e != api.ErrNone {
					t.Fatalf("the table %d: %v", n, e)
				}
			}
			answers(t, "behind Merge", s, p)
		}
		answers(t, "opened again", opened(t, "opened again", d, seed), p)
	}
}

func TestManifestIsACopy(t *testing.T) {
	s, _, p := led(t, 1, [2]int{5, 0}, story())
	had := s.Manifest()
	m := s.Manifest()
	m.Next, m.Check, m.Levels[0][0] = 0, 0, 99
	_ = append(m.Levels[0][:1], 98)
	if shown(s.Manifest()) != shown(had) {
		t.Fatalf("the manifest is %s, not %s", shown(s.Manifest()), shown(had))
	}
	is(t, "Merge", s.Merge(0), api.OK)
	if !slices.Equal(had.Levels[0], []int{0, 1, 2, 3, 4}) {
		t.Fatalf("a manifest that was told is %s", shown(had))
	}
	answers(t, "its manifest was overwritten", s, p)
}

// TestIndexHasNoRoom has as many tables as an index may have, and a disk whose free bytes are gone.
func TestIndexHasNoRoom(t *testing.T) {
	s, d, p := led(t, 1, [2]int{1, 0}, story())
	for len(s.Manifest().Levels[0]) < 40 {
		p = appends(t, s, p, "b", some(1))
		is(t, "Index", s.Index(), api.OK)
	}
	p = appends(t, s, p, "b", some(1))
	noRoom(t, "forty tables", s, d, p, s.Index)
	is(t, "Merge", s.Merge(0), api.OK)
	is(t, "Index", s.Index(), api.OK)
	answers(t, "there is room again", s, p)
	is(t, "Create", d.Create("x"), api.OK)
	is(t, "Append", d.Append("x", string(make([]byte, d.Free()-6100))), api.OK)
	noRoom(t, "a full disk", s, d, p, func() api.Errno { return s.Merge(0) })
	p = appends(t, s, p, "b", some(1))
	noRoom(t, "a full disk", s, d, p, s.Index)
	noRoom(t, "a full disk", s, d, p, func() api.Errno {
		_, e := s.Append("b", -2, some(8))
		return e
	})
	is(t, "Delete", d.Delete("x"), api.OK)
	is(t, "Index", s.Index(), api.OK)
	answers(t, "there is room once more", s, p)
	answers(t, "opened again", opened(t, "opened again", d, 1), p)
}

// noRoom holds that something finds no room, and nothing changes.
func noRoom(t *testing.T, what string, s *Store, d *disk.Disk, p plain, do func() api.Errno) {
	t.Helper()
	had, m := files(t, d), s.Manifest()
	is(t, what, do(), api.ErrFull)
	has(t, what, d, had)
	if shown(s.Manifest()) != shown(m) {
		t.Fatalf("%s: the manifest is %s, not %s", what, shown(s.Manifest()), shown(m))
	}
	answers(t, what, s, p)
}

// TestChangesFail lets each change of Flush, Index and Merge fail: what was sure ahead of it is there behind an Open, and of the rest nothing, where nothing was kept.
func TestChangesFail(t *testing.T) {
	for _, c := range []struct {
		what    string
		do      func(s *Store) api.Errno
		changes int
	}{
		{"Flush", (*Store).Flush, 1},
		// Behind the log's sync the filter's file and the table's take three changes each, the manifest's four; of each table that is merged two files go.
		{"Index", (*Store).Index, 11},
		{"Merge", func(s *Store) api.Errno { return s.Merge(0) }, 16},
	} {
		for n := range c.changes + 1 {
			s, d, p := led(t, 1, [2]int{2, 0}, story()[:7])
			is(t, "Fail", d.Fail(n, nil), api.OK)
			what := fmt.Sprintf("the change %d of %s fails", n, c.what)
			if n == c.changes {
				is(t, what, c.do(s), api.OK)
				answers(t, what, s, p)
				continue
			}
			is(t, what, c.do(s), api.ErrDown)
			over(t, what, s, p)
			is(t, "Start", d.Start(), api.OK)
			if c.what != "Index" || n == 0 {
				p = p[:6]
			}
			s = opened(t, what, d, 1)
			answers(t, what, s, p)
			p = appends(t, s, p, "c", some(2))
			is(t, what+": Index", s.Index(), api.OK)
			answers(t, what, s, p)
		}
	}
}

package store

import (
	"fmt"
	"math"
	"slices"
	"strings"
	"testing"

	"annalist/api"
	"annalist/batches"
	"annalist/disk"
)

// P26.2

// wrong is what is wrong with a batch, and with the version that is expected, as the chapter has it, the first one first.
func wrong(p plain, stream string, expected int, l []api.Event) api.Errno {
	switch {
	case stream == "" || len(l) == 0:
		return api.ErrArg
	case len(stream) > 32 || len(l) > 8:
		return api.ErrLong
	}
	for _, event := range l {
		switch {
		case event.Type == "":
			return api.ErrArg
		case len(event.Type) > 16 || len(event.Data) > 200:
			return api.ErrLong
		}
	}
	switch {
	case expected < -2:
		return api.ErrArg
	case expected != -2 && expected != p.last(stream):
		return api.ErrVersion
	}
	return api.OK
}

// lists are lists of events, of which many have something wrong.
func lists() [][]api.Event {
	long := strings.Repeat("t", 17)
	return [][]api.Event{
		nil, {}, some(1), some(8), some(9), {{Type: strings.Repeat("t", 16), Data: strings.Repeat("\x00", 200)}},
		{{}}, {{Type: long}}, {{Type: "t", Data: strings.Repeat("d", 201)}}, {{Type: "t"}, {}}, {{Type: "t"}, {Type: long}, {}}, {{Data: strings.Repeat("d", 201)}},
		slices.Concat(some(8), []api.Event{{}}), slices.Concat(some(7), []api.Event{{Type: long}}),
	}
}

// TestAppend tries all pairs and threes of what may be wrong, and what is right among them; what is refused changes nothing.
func TestAppend(t *testing.T) {
	for _, seed := range []uint64{0, 1} {
		for _, way := range [][2]int{{0, 0}, {2, 3}} {
			s, d, p := led(t, seed, way, story()[:7])
			for _, stream := range []string{"", "a", "b", "c", "a\x00", strings.Repeat("a", 32), strings.Repeat("a", 33)} {
				for _, l := range lists() {
					for _, expected := range []int{math.MinInt, -3, -2, -1, 0, 1, p.last("a"), p.last("a") + 1, p.last("b"), p.last("b") - 1, math.MaxInt} {
						what := fmt.Sprintf("the seed %d, the way %v: Append(%q, %d, %.90q)", seed, way, stream, expected, fmt.Sprint(l))
						had := files(t, d)
						n, e := s.Append(stream, expected, l)
						if want := wrong(p, stream, expected, l); want != api.OK {
							number(t, what, n, e, 0, want)
							has(t, what, d, had)
							continue
						}
						q := p.and(stream, l)
						number(t, what, n, e, q[len(p)].First, api.OK)
						p = q
					}
				}
			}
			answers(t, "behind all that", s, p)
			answers(t, "opened again", opened(t, "opened again", d, seed), p)
		}
	}
}

// TestRefusedAppends change no answer.
func TestRefusedAppends(t *testing.T) {
	s, _, p := led(t, 0, [2]int{2, 3}, story())
	for _, stream := range []string{"a", "c", "", strings.Repeat("a", 33)} {
		for _, l := range lists() {
			for _, expected := range []int{-3, -1, 2} {
				if wrong(p, stream, expected, l) != api.OK {
					s.Append(stream, expected, l)
				}
			}
		}
	}
	answers(t, "behind what was refused", s, p)
}

// TestExpectedVersions has each version expected of each stream.
func TestExpectedVersions(t *testing.T) {
	for _, seed := range []uint64{0, 1} {
		s, _, p := led(t, seed, [2]int{5, 2}, story())
		for _, stream := range p.streams() {
			for expected := -1; expected < 40; expected++ {
				if expected == p.last(stream) {
					p = appends(t, s, p, stream, some(2))
				}
				n, e := s.Append(stream, expected, some(3))
				number(t, fmt.Sprintf("Append(%q, %d)", stream, expected), n, e, 0, api.ErrVersion)
			}
			q := p.and(stream, some(4))
			n, e := s.Append(stream, api.AnyVersion, some(4))
			number(t, "Append of any version", n, e, q[len(p)].First, api.OK)
			p = q
		}
		answers(t, "behind all that", s, p)
	}
}

// TestAppendIsARecord has one record more behind each Append, which is the batch's bytes.
func TestAppendIsARecord(t *testing.T) {
	_, d, p := led(t, 1, [2]int{2, 3}, story())
	l := payloads(t, files(t, d))
	if len(l) != len(p) {
		t.Fatalf("%d records of %d batches", len(l), len(p))
	}
	for i, b := range p {
		if s, _ := batches.Put(b); s != l[i] {
			t.Fatalf("the record %d is %q, not %q", i, l[i], s)
		}
	}
}

// TestAppendKeepsNothing has the list overwritten by the caller, who also has it as it was.
func TestAppendKeepsNothing(t *testing.T) {
	s := opened(t, "a new disk", made(t, 60000, nil), 1)
	l := some(5)
	n, e := s.Append("a", -1, l)
	number(t, "Append", n, e, 0, api.OK)
	p := plain{}.and("a", some(5))
	if show(p.all()) != show(plain{}.and("a", l).all()) {
		t.Fatalf("the list is %v", l)
	}
	for i := range l {
		l[i] = api.Event{Type: "other"}
	}
	answers(t, "the list was overwritten", s, p)
}

// TestTheGreatestVersion has streams near their ends, as only a log says that others wrote to: what does not find room there is batches.Put's error.
func TestTheGreatestVersion(t *testing.T) {
	for _, seed := range []uint64{0, 1} {
		for n := 1; n <= 8; n++ {
			d := made(t, 60000, nil)
			p := plain{{Stream: "a", First: api.MaxVersion - 7, Events: some(4)}, {Stream: "b", First: api.MaxVersion - 3, Events: some(3)}}
			logs(t, d, p...)
			s := opened(t, "great versions", d, seed)
			p = appends(t, s, p, "c", some(1))
			answersAtEnds(t, s, p)
			want := api.ErrArg
			if n <= 3 {
				want = api.OK
				p = p.and("a", some(n))
			}
			had, first := files(t, d), p.last("a")-n+1
			if want != api.OK {
				first = 0
			}
			got, e := s.Append("a", api.AnyVersion, some(n))
			number(t, fmt.Sprintf("Append of %d", n), got, e, first, want)
			if want != api.OK {
				has(t, "no room for versions", d, had)
			}
			got, e = s.Append("b", api.MaxVersion-1, some(1))
			number(t, "Append behind the greatest version", got, e, 0, api.ErrArg)
			got, e = s.Append("b", api.MaxVersion-2, some(1))
			number(t, "Append of another version", got, e, 0, api.ErrVersion)
			answersAtEnds(t, s, p)
			is(t, "Index", s.Index(), api.OK)
			answersAtEnds(t, s, p)
		}
	}
}

// answersAtEnds holds what is said of streams whose versions begin anywhere, from there on.
func answersAtEnds(t *testing.T, s *Store, p plain) {
	t.Helper()
	l, e := s.All()
	tells(t, "All", l, e, p.all())
	for _, b := range p {
		last := p.last(b.Stream)
		n, e := s.Last(b.Stream)
		number(t, fmt.Sprintf("Last(%q)", b.Stream), n, e, last, api.OK)
		for _, from := range []int{p.of(b.Stream)[0].Version, last - 1, last, last + 1, api.MaxVersion, api.MaxVersion + 1, math.MaxInt} {
			for _, count := range []int{1, 2, 5, api.MaxVersion, api.MaxVersion + 1, math.MaxInt} {
				pages(t, "great versions", s, p, b.Stream, max(from, p.of(b.Stream)[0].Version), count)
			}
		}
	}
}

// TestAppendHasRoom has disks of all sizes about what records need.
func TestAppendHasRoom(t *testing.T) {
	first, _ := batches.Put(api.Batch{Stream: "a", Events: some(3)})
	second, _ := batches.Put(api.Batch{Stream: "a", First: 3, Events: some(2)})
	// A chunk's head has 12 bytes, and so much a record has beside its payload; an Open alone may use the last 6000.
	one := 6000 + 24 + len(first)
	both := one + 12 + len(second)
	for _, c := range []struct{ room, fit int }{{0, 0}, {5999, 0}, {6000, 0}, {one - 1, 0}, {one, 1}, {one + 1, 1}, {both - 1, 1}, {both, 2}, {both + 1, 2}} {
		d := made(t, c.room, nil)
		s := opened(t, "a new disk", d, 1)
		var p plain
		for i, l := range [][]api.Event{some(3), some(2)}[:min(c.fit+1, 2)] {
			if i < c.fit {
				p = appends(t, s, p, "a", l)
				continue
			}
			had := files(t, d)
			n, e := s.Append("a", api.AnyVersion, l)
			number(t, fmt.Sprintf("Append with %d bytes", c.room), n, e, 0, api.ErrFull)
			has(t, "no room", d, had)
		}
		answers(t, fmt.Sprintf("with %d bytes", c.room), s, p)
		answers(t, "opened again", opened(t, "opened again", d, 1), p)
	}
}

// TestAppendOfTooManyChunks fills the greatest disk, whose log finds no chunk more.
func TestAppendOfTooManyChunks(t *testing.T) {
	d := made(t, api.MaxDisk, nil)
	s := opened(t, "the greatest disk", d, 1)
	l := slices.Repeat([]api.Event{{Type: strings.Repeat("t", 16), Data: strings.Repeat("d", 200)}}, 8)
	var p plain
	for {
		had := d.Free()
		n, e := s.Append("a", api.AnyVersion, l)
		if e != api.OK {
			number(t, "no chunk more", n, e, 0, api.ErrFull)
			if d.Free() != had || d.Free() < 6000+4096 {
				t.Fatalf("%d bytes are free, not %d", d.Free(), had)
			}
			break
		}
		p = append(p, api.Batch{Stream: "a", First: 8 * len(p), Events: l})
	}
	if len(p) != 400 {
		t.Fatalf("%d batches found room", len(p))
	}
	// In the last chunk there is room for less.
	n, e := s.Append("b", -1, some(1))
	number(t, "Append", n, e, 0, api.OK)
	p = p.and("b", some(1))
	told, e := s.All()
	tells(t, "All", told, e, p.all())
	told, e = s.Forward("a", 0, math.MaxInt)
	tells(t, "Forward", told, e, p[:400].all())
	n, e = s.Last("b")
	number(t, "Last", n, e, 0, api.OK)
}

// over holds that a store whose log is over tells nothing, and takes nothing.
func over(t *testing.T, what string, s *Store, p plain) {
	t.Helper()
	for _, stream := range p.streams() {
		for _, expected := range []int{-2, -1, 0, p.last(stream)} {
			n, e := s.Append(stream, expected, some(1))
			number(t, what+": Append", n, e, 0, api.ErrDown)
		}
		n, e := s.Last(stream)
		number(t, what+": Last", n, e, 0, api.ErrDown)
		for _, from := range []int{0, 1, math.MaxInt} {
			l, e := s.Forward(stream, from, 3)
			refuses(t, what+": Forward", l, e, api.ErrDown)
			l, e = s.Backward(stream, from, 3)
			refuses(t, what+": Backward", l, e, api.ErrDown)
		}
	}
	l, e := s.All()
	refuses(t, what+": All", l, e, api.ErrDown)
	is(t, what+": Flush", s.Flush(), api.ErrDown)
	is(t, what+": Index", s.Index(), api.ErrDown)
	n, e := s.Append("a", -3, some(1))
	number(t, what+": Append of a wrong version", n, e, 0, api.ErrArg)
	n, e = s.Append("a", -1, some(9))
	number(t, what+": Append of too many", n, e, 0, api.ErrLong)
	l, e = s.Forward("a", 0, 0)
	refuses(t, what+": Forward of none", l, e, api.ErrArg)
	n, e = s.Last("")
	number(t, what+": Last of no stream", n, e, -1, api.ErrArg)
}

// TestAppendFails lets each change of an Append fail, with so many bytes kept: the events are there behind an Open, all of them, or none is.
func TestAppendFails(t *testing.T) {
	l := slices.Repeat([]api.Event{{Type: "t", Data: strings.Repeat("d", 200)}}, 8)
	payload, _ := batches.Put(api.Batch{Stream: "a", Events: l})
	// What is appended goes to a new disk's first chunk, to one that has room, or to a new one behind one that has not.
	for _, c := range []struct{ batches, changes, bytes int }{{0, 2, 24 + len(payload)}, {1, 1, 12 + len(payload)}, {2, 3, 24 + len(payload)}} {
		for n := range c.changes {
			for keep := range c.bytes + 2 {
				if keep%97 > 1 && keep < c.bytes-2 && keep > 14 {
					continue
				}
				appendFails(t, l, c.batches, n, keep, n == c.changes-1 && keep >= c.bytes)
			}
		}
	}
}

// appendFails appends events to a store that has so many batches, where one change fails; there tells whether they are to be there behind an Open.
func appendFails(t *testing.T, l []api.Event, many, change, keep int, there bool) {
	t.Helper()
	what := fmt.Sprintf("%d batches, the change %d fails, %d bytes are kept", many, change, keep)
	d := made(t, 60000, nil)
	s := opened(t, what, d, 1)
	var p plain
	for range many {
		p = appends(t, s, p, "a", l)
	}
	is(t, "Flush", s.Flush(), api.OK)
	is(t, "Fail", d.Fail(change, slices.Repeat([]int{keep}, 9)), api.OK)
	n, e := s.Append("a", api.AnyVersion, l)
	number(t, what, n, e, 0, api.ErrDown)
	over(t, what, s, p)
	is(t, "Start", d.Start(), api.OK)
	over(t, what+", started", s, p)
	if there {
		p = p.and("a", l)
	}
	s = opened(t, what, d, 1)
	answers(t, what, s, p)
	p = appends(t, s, p, "a", some(1))
	answers(t, what+", and one more", s, p)
}

// TestADiskThatIsDown tells nothing of any stream, also not that it is not there.
func TestADiskThatIsDown(t *testing.T) {
	for _, seed := range []uint64{0, 1} {
		for _, way := range ways() {
			s, d, p := led(t, seed, way, story()[:6])
			m := s.Manifest()
			is(t, "Crash", d.Crash(slices.Repeat([]int{9999}, 99)), api.OK)
			over(t, "the disk is down", s, p)
			for level := range m.Levels {
				if len(m.Levels[level]) > 0 {
					is(t, "Merge", s.Merge(level), api.ErrDown)
				}
			}
			if shown(s.Manifest()) != shown(m) {
				t.Fatalf("the manifest is %s, not %s", shown(s.Manifest()), shown(m))
			}
			is(t, "Start", d.Start(), api.OK)
			over(t, "the disk was down", s, p)
			answers(t, "opened again", opened(t, "opened again", d, seed), p)
			over(t, "the disk was down", s, p)
		}
	}
	s := opened(t, "a new disk", made(t, 60000, nil), 1)
	answers(t, "a new disk", s, nil)
	d := made(t, 60000, nil)
	s = opened(t, "a new disk", d, 1)
	is(t, "Crash", d.Crash(nil), api.OK)
	over(t, "without anything", s, nil)
}

// TestStoresAreApart has two of two disks: what is appended to one is not the other's.
func TestStoresAreApart(t *testing.T) {
	disks := []*disk.Disk{made(t, 60000, nil), made(t, 60000, nil)}
	a, b := opened(t, "one", disks[0], 1), opened(t, "another one", disks[1], 1)
	p := appends(t, a, nil, "a", some(2))
	answers(t, "another one", b, nil)
	q := appends(t, b, nil, "a", some(5))
	is(t, "Index", a.Index(), api.OK)
	answers(t, "one", a, p)
	answers(t, "another one", b, q)
}

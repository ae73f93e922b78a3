package batches

import (
	"encoding/binary"
	"math"
	"math/rand"
	"slices"
	"strconv"
	"strings"
	"testing"

	"annalist/api"
)

// x is a text of n bytes.
func x(n int) string { return strings.Repeat("x", n) }

// noise is n bytes of no pattern.
func noise(r *rand.Rand, n int) string {
	b := make([]byte, n)
	r.Read(b)
	return string(b)
}

// small is an event with which nothing is wrong, great one of as many bytes as there may be.
func small() api.Event { return api.Event{Type: "a", Data: "bc", Weight: 1} }

func great() api.Event { return api.Event{Type: x(16), Data: x(200), Weight: math.Inf(-1)} }

// times is a list of one event, so many times.
func times(n int, e api.Event) []api.Event { return slices.Repeat([]api.Event{e}, n) }

// batch is one of a stream, a version, and so many small events.
func batch(stream string, first, many int) api.Batch {
	return api.Batch{Stream: stream, First: first, Events: times(many, small())}
}

// laidText is a text as the chapters put it, by the library.
func laidText(s string) string {
	return string(binary.BigEndian.AppendUint16(nil, uint16(len(s)))) + s
}

// laidEvent is an event's bytes, by the library, whether it may be or not.
func laidEvent(e api.Event) string {
	return laidText(e.Type) + laidText(e.Data) + string(binary.BigEndian.AppendUint64(nil, math.Float64bits(e.Weight)))
}

// laid is bytes as the chapter asks for a batch's, by the library, whether it may be or not, and whatever is said of how many events there are.
func laid(stream string, first uint64, many byte, list ...api.Event) string {
	s := laidText(stream) + string(binary.BigEndian.AppendUint64(nil, first)) + string([]byte{many})
	for _, e := range list {
		s += laidEvent(e)
	}
	return s
}

// laidBatch is laid of a batch, with the number of its events.
func laidBatch(b api.Batch) string {
	return laid(b.Stream, uint64(b.First), byte(len(b.Events)), b.Events...)
}

// head is what a failure tells of a text.
func head(s string) string {
	if len(s) <= 40 {
		return strconv.Quote(s)
	}
	return strconv.Quote(s[:40]) + " of " + strconv.Itoa(len(s)) + " bytes"
}

// show is a batch as a failure tells it.
func show(b api.Batch) string {
	s := head(b.Stream) + ", " + strconv.Itoa(b.First)
	for i, e := range b.Events {
		if i > 8 {
			return s + " and more"
		}
		s += "; " + head(e.Type) + ", " + head(e.Data) + ", " + strconv.FormatUint(math.Float64bits(e.Weight), 16)
	}
	return s
}

// alike tells whether two batches are one, without a call of the package.
func alike(a, b api.Batch) bool {
	return a.Stream == b.Stream && a.First == b.First && slices.EqualFunc(a.Events, b.Events, func(a, b api.Event) bool {
		return a.Type == b.Type && a.Data == b.Data && math.Float64bits(a.Weight) == math.Float64bits(b.Weight)
	})
}

// copied is a batch with a list of its own.
func copied(b api.Batch) api.Batch {
	b.Events = slices.Clone(b.Events)
	return b
}

// someEvents is events that may be, at the edges of their sizes and with Weights that no value tells apart.
func someEvents() []api.Event {
	var l []api.Event
	for _, b := range []uint64{0, 1 << 63, 1, 0x3ff0000000000000, 0x7ff0000000000000, 0xfff0000000000000, 0x7ff0000000000001, 0xfff8000000000000, 0x7ff8000000000001, math.MaxUint64} {
		l = append(l, api.Event{Type: "t", Weight: math.Float64frombits(b)})
	}
	return append(l, small(), great(), api.Event{Type: "\x00", Data: "\x00\x00"}, api.Event{Type: strings.Repeat("\x00", 16), Data: strings.Repeat("\xff", 200)}, api.Event{Type: "ä", Data: "€"})
}

// some is batches that may be, at all edges of their sizes and versions, and with any bytes.
func some() []api.Batch {
	var l []api.Batch
	for _, n := range []int{1, 2, 31, 32} {
		for _, many := range []int{1, 2, 7, 8} {
			for _, first := range []int{0, 1, 255, 256, 257, 65536, 1<<24 + 1, 1<<30 - 9, 1<<30 - many - 1, 1<<30 - many} {
				l = append(l, batch(x(n), first, many))
			}
		}
	}
	for _, stream := range []string{"\x00", "\xff", "\x00\x01a", "ä€", strings.Repeat("\x00", 32), strings.Repeat("\xff", 32), laid("s", 1, 1)} {
		l = append(l, batch(stream, 0, 1), batch(stream, 1<<30-3, 3))
	}
	for _, e := range someEvents() {
		l = append(l, api.Batch{Stream: "s", First: 5, Events: []api.Event{e}}, api.Batch{Stream: "s", Events: times(8, e)})
	}
	r := rand.New(rand.NewSource(9))
	for range 100 {
		b := api.Batch{Stream: noise(r, 1+r.Intn(32)), First: r.Intn(1 << 30)}
		for range 1 + r.Intn(8) {
			b.Events = append(b.Events, api.Event{Type: noise(r, 1+r.Intn(16)), Data: noise(r, r.Intn(201)), Weight: math.Float64frombits(r.Uint64())})
		}
		b.First = min(b.First, 1<<30-len(b.Events))
		l = append(l, b)
	}
	return l
}

// fault is a batch that may not be, and the error that comes first.
type fault struct {
	b    api.Batch
	want api.Errno
}

// wrongFirsts are versions that no batch of so many events begins with, among them all powers of two from the bound on, and those whose lowest bytes may be.
func wrongFirsts(many int) []int {
	l := []int{math.MinInt, math.MinInt + 1, math.MinInt32, -1 << 30, -8, -2, -1, 1<<30 - many + 1, 1<<30 - 1 + many, 1<<30 + 1, math.MaxInt - many - 1, math.MaxInt - many, math.MaxInt - 1}
	for n := math.MaxInt; n > 1<<30; n /= 2 {
		l = append(l, n, n-n/2, n-n/2+1)
	}
	return l
}

// wrongEvents are events that may not be, by what is wrong with them.
func wrongEvents() map[api.Errno][]api.Event {
	return map[api.Errno][]api.Event{
		api.ErrArg:  {{}, {Data: "b"}, {Data: x(201)}, {Weight: math.NaN()}},
		api.ErrLong: {{Type: x(17)}, {Type: x(17), Data: x(201)}, {Type: "a", Data: x(201)}, {Type: x(16), Data: x(456), Weight: 1}, {Type: x(272)}, {Type: x(65536 + 1)}},
	}
}

// wrong is batches with one fault, and some with two, of which the first one is told.
func wrong() []fault {
	var l []fault
	// No bytes of a stream, or no events, whatever else there is.
	for _, first := range []int{math.MinInt, -1, 0, 1 << 30, math.MaxInt} {
		for _, list := range [][]api.Event{nil, {}, {{}}, {small()}, {{Type: x(17)}}, times(8, small()), times(9, small()), times(300, small())} {
			l = append(l, fault{api.Batch{First: first, Events: list}, api.ErrArg})
		}
		for _, n := range []int{1, 32, 33, 300} {
			l = append(l, fault{api.Batch{Stream: x(n), First: first}, api.ErrArg}, fault{api.Batch{Stream: x(n), First: first, Events: []api.Event{}}, api.ErrArg})
		}
	}
	// Too many of either, whatever else there is but that. Among the numbers are those whose lowest bytes may be.
	for _, first := range []int{math.MinInt, -1, 0, 1 << 30, math.MaxInt} {
		for _, n := range []int{33, 34, 255, 256, 257, 288, 65536, 65537} {
			l = append(l, fault{batch(x(n), first, 1), api.ErrLong}, fault{batch(x(n), first, 9), api.ErrLong}, fault{api.Batch{Stream: x(n), First: first, Events: []api.Event{{}}}, api.ErrLong})
		}
		for _, many := range []int{9, 10, 255, 256, 257, 264, 1000} {
			l = append(l, fault{batch("s", first, many), api.ErrLong}, fault{batch(x(32), first, many), api.ErrLong}, fault{api.Batch{Stream: "s", First: first, Events: make([]api.Event, many)}, api.ErrLong})
		}
	}
	// A version, ahead of the events.
	for _, many := range []int{1, 2, 7, 8} {
		for _, first := range wrongFirsts(many) {
			l = append(l, fault{batch("s", first, many), api.ErrArg}, fault{api.Batch{Stream: x(32), First: first, Events: times(many, api.Event{Type: x(17)})}, api.ErrArg})
		}
	}
	return append(l, wrongByEvents()...)
}

// wrongByEvents is batches of which one event may not be, wherever it stands, and some of which two may not be.
func wrongByEvents() []fault {
	var l []fault
	for want, list := range wrongEvents() {
		for _, e := range list {
			for many := 1; many <= 8; many++ {
				for at := range many {
					b := batch("s", 1<<30-many, many)
					b.Events[at] = e
					l = append(l, fault{b, want})
				}
			}
		}
	}
	for at := range 8 {
		for next := at + 1; next < 8; next++ {
			b, c := batch("s", 0, 8), batch("s", 0, 8)
			b.Events[at], b.Events[next] = api.Event{}, api.Event{Type: x(17)}
			c.Events[at], c.Events[next] = api.Event{Type: "a", Data: x(201)}, api.Event{Data: "b"}
			l = append(l, fault{b, api.ErrArg}, fault{c, api.ErrLong})
		}
	}
	return l
}

// P9.1

func TestCheck(t *testing.T) {
	for _, b := range some() {
		if e := Check(b); e != api.OK {
			t.Errorf("Check(%s): %v", show(b), e)
		}
	}
}

func TestCheckOfWrong(t *testing.T) {
	for _, f := range wrong() {
		if e := Check(f.b); e != f.want {
			t.Errorf("Check(%s): %v, not %v", show(f.b), e, f.want)
		}
	}
	if e := Check(api.Batch{}); e != api.ErrArg {
		t.Errorf("Check of zero: %v", e)
	}
}

func TestCheckOfExamples(t *testing.T) {
	for _, f := range []fault{
		{batch("s", 0, 0), api.ErrArg},
		{batch("s", 0, 9), api.ErrLong},
		{batch("s", -1, 1), api.ErrArg},
		{batch("s", 1<<30, 1), api.ErrArg},
		{batch("s", 1<<30-1, 1), api.OK},
		{batch("s", 1<<30-8, 8), api.OK},
		{batch("s", 1<<30-7, 8), api.ErrArg},
	} {
		if e := Check(f.b); e != f.want {
			t.Errorf("Check(%s): %v, not %v", show(f.b), e, f.want)
		}
	}
}

func TestCheckCountsBytes(t *testing.T) {
	// 16 runes of two bytes, and 17 of them.
	if e := Check(batch(strings.Repeat("ä", 16), 0, 1)); e != api.OK {
		t.Errorf("Check with a Stream of 32 bytes: %v", e)
	}
	if e := Check(batch(strings.Repeat("ä", 17), 0, 1)); e != api.ErrLong {
		t.Errorf("Check with a Stream of 34 bytes: %v", e)
	}
}

func TestPut(t *testing.T) {
	event := "\x00\x01a\x00\x02bc\x3f\xf0\x00\x00\x00\x00\x00\x00"
	for _, c := range []struct {
		b    api.Batch
		want string
	}{
		{batch("s", 1, 1), "\x00\x01s\x00\x00\x00\x00\x00\x00\x00\x01\x01" + event},
		{batch("s", 0, 2), "\x00\x01s\x00\x00\x00\x00\x00\x00\x00\x00\x02" + event + event},
		{batch("\x00\xff", 0x01020304, 8), "\x00\x02\x00\xff\x00\x00\x00\x00\x01\x02\x03\x04\x08" + strings.Repeat(event, 8)},
		{batch(x(32), 1<<30-1, 1), "\x00\x20" + x(32) + "\x00\x00\x00\x00\x3f\xff\xff\xff\x01" + event},
		{api.Batch{Stream: "ab", Events: []api.Event{{Type: "c"}, small(), {Type: "d", Data: "e"}}}, "\x00\x02ab\x00\x00\x00\x00\x00\x00\x00\x00\x03\x00\x01c\x00\x00\x00\x00\x00\x00\x00\x00\x00\x00" + event + "\x00\x01d\x00\x01e\x00\x00\x00\x00\x00\x00\x00\x00"},
	} {
		if s, e := Put(c.b); s != c.want || e != api.OK {
			t.Errorf("Put(%s): %q, %v, not %q", show(c.b), s, e, c.want)
		}
	}
	for _, b := range some() {
		if s, e := Put(b); s != laidBatch(b) || e != api.OK {
			t.Errorf("Put(%s): %s, %v, not %s", show(b), head(s), e, head(laidBatch(b)))
		}
	}
}

func TestPutOfWrong(t *testing.T) {
	for _, f := range wrong() {
		if s, e := Put(f.b); s != "" || e != f.want {
			t.Errorf("Put(%s): %s, %v, not %v", show(f.b), head(s), e, f.want)
		}
	}
	if s, e := Put(api.Batch{}); s != "" || e != api.ErrArg {
		t.Errorf("Put of zero: %s, %v", head(s), e)
	}
}

func TestBatchesStayAsTheyWere(t *testing.T) {
	for _, b := range some() {
		was := copied(b)
		s, _ := Put(b)
		Check(b)
		Same(b, was)
		if !alike(b, was) {
			t.Errorf("%s is another one behind the calls", show(was))
		}
		b.Events[0] = api.Event{Type: "other"}
		if s != laidBatch(was) {
			t.Errorf("what was put of %s is another text behind a change", show(was))
		}
	}
}

// P9.2

// gets holds what is got of a text against the batch that is asked for.
func gets(t *testing.T, s string, want api.Batch) {
	t.Helper()
	b, e := Get(s)
	if e != api.OK || !alike(b, want) {
		t.Errorf("Get(%s): %s, %v, not %s", head(s), show(b), e, show(want))
	}
}

// getsNothing holds what is got of a text against the error, and zero beside it.
func getsNothing(t *testing.T, s string) {
	t.Helper()
	b, e := Get(s)
	if e != api.ErrForm || !alike(b, api.Batch{}) || b.Events != nil {
		t.Errorf("Get(%s): %s, %v", head(s), show(b), e)
	}
}

func TestGet(t *testing.T) {
	gets(t, "\x00\x01s\x00\x00\x00\x00\x00\x00\x00\x01\x01\x00\x01a\x00\x02bc\x3f\xf0\x00\x00\x00\x00\x00\x00", batch("s", 1, 1))
	gets(t, "\x00\x02\x00\x01\x00\x00\x00\x00\x01\x02\x03\x04\x01\x00\x01\xff\x00\x00\x80\x00\x00\x00\x00\x00\x00\x00", api.Batch{Stream: "\x00\x01", First: 0x01020304, Events: []api.Event{{Type: "\xff", Weight: math.Copysign(0, -1)}}})
	for _, b := range some() {
		gets(t, laidBatch(b), b)
	}
}

func TestGetOfNone(t *testing.T) {
	for _, s := range []string{"", "\x00", "\x01", "s", "\x00\x00", "\x00\x01", "\x00\x01s", laid("s", 0, 0), laid("s", 0, 1), laid("s", 0, 8), laid("", 0, 0), x(9), x(300), x(2000), strings.Repeat("\x00", 9), strings.Repeat("\x00", 300), strings.Repeat("\xff", 300), strings.Repeat("\x00", 70000)} {
		getsNothing(t, s)
	}
	getsNothing(t, laidEvent(small()))
	getsNothing(t, laidEvent(small())+laidEvent(small()))
}

func TestGetOfBatchesThatMayNotBe(t *testing.T) {
	for _, f := range wrong() {
		getsNothing(t, laidBatch(f.b))
	}
}

func TestGetOfFirsts(t *testing.T) {
	for _, many := range []int{1, 2, 8} {
		list := times(many, small())
		for _, first := range []uint64{1<<30 - uint64(many) + 1, 1 << 30, 1<<30 + 1, 1 << 31, 1<<32 - 1, 1 << 32, 1<<32 + 1, 1 << 33, 1 << 40, 1 << 48, 1 << 56, 1<<62 + 3, 1<<63 - 1, 1 << 63, 1<<63 + 1, math.MaxUint64 - 7, math.MaxUint64} {
			getsNothing(t, laid("s", first, byte(many), list...))
		}
		for _, first := range []uint64{0, 1, 1 << 29, 1<<30 - uint64(many)} {
			gets(t, laid("s", first, byte(many), list...), batch("s", int(first), many))
		}
	}
}

func TestGetOfNumbersThatLie(t *testing.T) {
	for _, e := range []api.Event{small(), great(), {Type: "\x00"}} {
		for many := range 12 {
			for said := range 256 {
				s := laid("s", 3, byte(said), times(many, e)...)
				if said == many && many >= 1 && many <= 8 {
					gets(t, s, api.Batch{Stream: "s", First: 3, Events: times(many, e)})
				} else {
					getsNothing(t, s)
				}
			}
		}
	}
	for _, many := range []int{255, 256, 257, 264} {
		for _, said := range []byte{0, 1, 8, 9, 255} {
			getsNothing(t, laid("s", 3, said, times(many, small())...))
		}
	}
}

func TestGetOfOneOfTwo(t *testing.T) {
	for _, b := range some() {
		getsNothing(t, laidBatch(b)+laidBatch(b))
		getsNothing(t, "\x00"+laidBatch(b))
	}
}

func TestSame(t *testing.T) {
	a, b := small(), api.Event{Type: "b"}
	base := api.Batch{Stream: "s", First: 1, Events: []api.Event{a, b}}
	for _, c := range []api.Batch{
		{},
		{Stream: "s", First: 1},
		{Stream: "s", First: 1, Events: []api.Event{}},
		{Stream: "s", First: 1, Events: []api.Event{a}},
		{Stream: "s", First: 1, Events: []api.Event{b}},
		{Stream: "s", First: 1, Events: []api.Event{b, a}},
		{Stream: "s", First: 1, Events: []api.Event{a, b, b}},
		{Stream: "s", First: 1, Events: []api.Event{a, {Type: "b", Data: "c"}}},
		{Stream: "s", First: 1, Events: []api.Event{a, {Type: "b", Weight: math.Copysign(0, -1)}}},
		{Stream: "s", First: 1, Events: []api.Event{{Type: "a", Data: "bc", Weight: 2}, b}},
		{Stream: "s", First: 0, Events: []api.Event{a, b}},
		{Stream: "s", First: 2, Events: []api.Event{a, b}},
		{Stream: "s", First: -1, Events: []api.Event{a, b}},
		{Stream: "S", First: 1, Events: []api.Event{a, b}},
		{Stream: "s\x00", First: 1, Events: []api.Event{a, b}},
		{Stream: "", First: 1, Events: []api.Event{a, b}},
	} {
		if Same(base, c) || Same(c, base) || !Same(c, copied(c)) {
			t.Errorf("Same with %s", show(c))
		}
	}
	if !Same(base, copied(base)) || !Same(api.Batch{}, api.Batch{}) {
		t.Error("Same of the same is false")
	}
	if !Same(api.Batch{Stream: "s"}, api.Batch{Stream: "s", Events: []api.Event{}}) {
		t.Error("Same of no events and none is false")
	}
}

func TestSameOfAll(t *testing.T) {
	l := some()
	for _, f := range wrong()[:60] {
		l = append(l, f.b)
	}
	for i, a := range l {
		for k, b := range l {
			if Same(a, b) != alike(a, b) {
				t.Errorf("Same of batches %d and %d: %v", i, k, Same(a, b))
			}
		}
	}
}

func TestSameGoesByBits(t *testing.T) {
	weights := []uint64{0, 1 << 63, 0x7ff8000000000000, 0x7ff8000000000001, 0xfff8000000000000, 0x3ff0000000000000}
	for _, b := range weights {
		for _, c := range weights {
			one := api.Batch{Stream: "s", Events: []api.Event{small(), {Type: "t", Weight: math.Float64frombits(b)}}}
			other := api.Batch{Stream: "s", Events: []api.Event{small(), {Type: "t", Weight: math.Float64frombits(c)}}}
			if Same(one, other) != (b == c) {
				t.Errorf("Same of the Weights %x and %x: %v", b, c, Same(one, other))
			}
		}
	}
}

func TestListsAreTheCallersOwn(t *testing.T) {
	for _, want := range some() {
		s := laidBatch(want)
		a, _ := Get(s)
		b, _ := Get(s)
		a.Events[0] = api.Event{Type: "other"}
		a.Events = append(a.Events[:1], api.Event{Type: "more"})
		gets(t, s, want)
		if !alike(b, want) {
			t.Errorf("%s is another one behind a change of what was got as well", show(want))
		}
	}
}

// P9.3

func TestGetOfPut(t *testing.T) {
	for _, b := range some() {
		s, e := Put(b)
		if e != api.OK {
			t.Errorf("Put(%s): %v", show(b), e)
		}
		gets(t, s, b)
		if got, _ := Get(s); !Same(got, b) {
			t.Errorf("%s is got as %s", show(b), show(got))
		}
	}
}

func TestGetOfCutOff(t *testing.T) {
	for _, b := range some() {
		s, _ := Put(b)
		for n := range len(s) {
			getsNothing(t, s[:n])
		}
	}
}

func TestGetOfMore(t *testing.T) {
	for _, b := range some() {
		s, _ := Put(b)
		for _, behind := range []string{"\x00", "\x01", "x", "\xff", "\x00\x00", x(8), strings.Repeat("\x00", 300), laidEvent(small()), laidEvent(b.Events[0]), s} {
			getsNothing(t, s+behind)
		}
	}
}

func TestBatchesFindRoomInRecords(t *testing.T) {
	for _, b := range append(some(), api.Batch{Stream: x(32), First: 1<<30 - 8, Events: times(8, great())}) {
		if s, e := Put(b); len(s) > api.MaxRecord || e != api.OK {
			t.Errorf("%s: %d bytes, %v", show(b), len(s), e)
		}
	}
	if s, _ := Put(api.Batch{Stream: x(32), Events: times(8, great())}); len(s) != 2+32+8+1+8*228 {
		t.Errorf("the greatest batch has %d bytes", len(s))
	}
}

// stands tells whether a text is the bytes of a batch that may be, by the lengths that stand there.
func stands(s string) bool {
	stream, ok := textAhead(s, 1, 32)
	if !ok || len(s) < stream+9 {
		return false
	}
	first, many := binary.BigEndian.Uint64([]byte(s[stream:])), int(s[stream+8])
	if many < 1 || many > 8 || first > 1<<30-uint64(many) {
		return false
	}
	s = s[stream+9:]
	for range many {
		kind, ok := textAhead(s, 1, 16)
		if !ok {
			return false
		}
		data, ok := textAhead(s[kind:], 0, 200)
		if !ok || len(s) < kind+data+8 {
			return false
		}
		s = s[kind+data+8:]
	}
	return s == ""
}

// textAhead is where a text that stands ahead ends, if it has no fewer bytes than one number and no more than another one.
func textAhead(s string, least, most int) (end int, ok bool) {
	if len(s) < 2 {
		return 0, false
	}
	n := int(binary.BigEndian.Uint16([]byte(s)))
	return 2 + n, n >= least && n <= most && n <= len(s)-2
}

// heldAgainstPut holds what is got of any text against its bytes: they are those that stood there; of a text that is no batch's nothing is got. It tells whether it was one.
func heldAgainstPut(t *testing.T, s string) bool {
	t.Helper()
	if !stands(s) {
		getsNothing(t, s)
		return false
	}
	b, e := Get(s)
	if e != api.OK {
		t.Errorf("Get(%s): %v", head(s), e)
	}
	if put, e := Put(b); put != s || e != api.OK {
		t.Errorf("Put of Get(%s): %s, %v", head(s), head(put), e)
	}
	return true
}

func TestPutOfGet(t *testing.T) {
	r := rand.New(rand.NewSource(3))
	for range 20000 {
		heldAgainstPut(t, noise(r, r.Intn(60)))
	}
	got := 0
	for _, b := range some() {
		s := laidBatch(b)
		for range 200 {
			l := []byte(s)
			for range 1 + r.Intn(2) {
				l[r.Intn(len(l))] ^= 1 << r.Intn(8)
			}
			if heldAgainstPut(t, string(l)) {
				got++
			}
		}
	}
	if got < 100 {
		t.Errorf("of all texts just %d were a batch's", got)
	}
}

func TestPutOfGetOfHeads(t *testing.T) {
	// Each byte ahead of the events, and of the first one's lengths, as each byte that there is.
	s := laidBatch(batch("st", 1<<20, 2))
	for at := range 22 {
		for n := range 256 {
			heldAgainstPut(t, s[:at]+string([]byte{byte(n)})+s[at+1:])
		}
	}
}

func TestUnlikeBatchesHaveUnlikeBytes(t *testing.T) {
	l := some()
	texts := make([]string, len(l))
	for i, b := range l {
		texts[i], _ = Put(b)
	}
	for i, a := range l {
		for k, b := range l {
			if (texts[i] == texts[k]) != Same(a, b) {
				t.Errorf("batches %d and %d", i, k)
			}
		}
	}
}

package events

import (
	"encoding/binary"
	"math"
	"math/rand"
	"slices"
	"strconv"
	"strings"
	"testing"

	"annalist/api"
)

// of is the number of some bits.
func of(b uint64) float64 { return math.Float64frombits(b) }

// edges are bits at which a Weight that went by its value, or through another number, would come out as another one.
func edges() []uint64 {
	return []uint64{
		0, 1 << 63, // both noughts
		1, 1<<63 + 1, 0x000fffffffffffff, 0x0010000000000000,
		0x3ff0000000000000, 0xbff0000000000000, 0x3fb999999999999a, 0x4340000000000001,
		0x7fefffffffffffff, 0xffefffffffffffff,
		0x7ff0000000000000, 0xfff0000000000000, // both infinities
		0x7ff0000000000001, 0xfff0000000000001, 0x7ff8000000000000, 0xfff8000000000000, 0x7ff8000000000001, math.MaxInt64, math.MaxUint64, // no numbers
	}
}

// x is a text of n bytes.
func x(n int) string { return strings.Repeat("x", n) }

// laid is the bytes that the chapter asks for, put by the library, whether the event may be or not.
func laid(kind, data string, weight uint64) string {
	b := binary.BigEndian.AppendUint16(nil, uint16(len(kind)))
	b = append(b, kind...)
	b = binary.BigEndian.AppendUint16(b, uint16(len(data)))
	b = append(b, data...)
	return string(binary.BigEndian.AppendUint64(b, weight))
}

// show is an event as a failure tells it, with the Weight's bits; no more than the head of a long text, since many are long.
func show(e api.Event) string {
	return head(e.Type) + ", " + head(e.Data) + ", " + strconv.FormatUint(math.Float64bits(e.Weight), 16)
}

// head is what a failure tells of a text.
func head(s string) string {
	if len(s) <= 40 {
		return strconv.Quote(s)
	}
	return strconv.Quote(s[:40]) + " of " + strconv.Itoa(len(s)) + " bytes"
}

// alike tells whether two events are one, without a call of the package.
func alike(a, b api.Event) bool {
	return a.Type == b.Type && a.Data == b.Data && math.Float64bits(a.Weight) == math.Float64bits(b.Weight)
}

// some is events that may be, at all edges of their sizes, with all edges of Weights, and with any bytes.
func some() []api.Event {
	var l []api.Event
	weights := edges()
	texts := []string{"a", "\x00", "\xff", "\x00\x01", "ä", "\x00\x02ab", strings.Repeat("\x00", 16), x(15), x(16)}
	for i, kind := range texts {
		for k, data := range []string{"", "b", "\x00", "\x00\x00\x00\x00", "€", x(8), x(199), x(200), strings.Repeat("\x00", 200), strings.Repeat("\xff", 200)} {
			l = append(l, api.Event{Type: kind, Data: data, Weight: of(weights[(10*i+k)%len(weights)])})
		}
	}
	for _, b := range weights {
		l = append(l, api.Event{Type: "t", Weight: of(b)})
	}
	r := rand.New(rand.NewSource(7))
	for range 300 {
		l = append(l, api.Event{Type: noise(r, 1+r.Intn(16)), Data: noise(r, r.Intn(201)), Weight: of(r.Uint64())})
	}
	return l
}

// noise is n bytes of no pattern.
func noise(r *rand.Rand, n int) string {
	b := make([]byte, n)
	r.Read(b)
	return string(b)
}

// wrong is events that may not be, and what is wrong with them. Among the lengths are those whose lowest byte, or two lowest ones, may be.
func wrong() map[api.Errno][]api.Event {
	l := map[api.Errno][]api.Event{}
	for _, n := range []int{0, 1, 200, 201, 65536, 65537} {
		for _, b := range edges() {
			l[api.ErrArg] = append(l[api.ErrArg], api.Event{Data: x(n), Weight: of(b)})
		}
	}
	for _, n := range []int{17, 18, 32, 200, 255, 256, 257, 272, 65535, 65536, 65537, 65552} {
		for _, m := range []int{0, 1, 200, 201} {
			l[api.ErrLong] = append(l[api.ErrLong], api.Event{Type: x(n), Data: x(m), Weight: 1})
		}
	}
	for _, n := range []int{201, 202, 255, 256, 257, 400, 456, 65535, 65536, 65537, 65736, 1 << 20} {
		for _, m := range []int{1, 16, 17} {
			l[api.ErrLong] = append(l[api.ErrLong], api.Event{Type: x(m), Data: x(n), Weight: of(1 << 63)})
		}
	}
	return l
}

// P7.1

func TestCheck(t *testing.T) {
	for _, e := range some() {
		if err := Check(e); err != api.OK {
			t.Errorf("Check(%s): %v", show(e), err)
		}
	}
	for _, n := range []int{1, 2, 15, 16} {
		for _, m := range []int{0, 1, 199, 200} {
			if err := Check(api.Event{Type: x(n), Data: x(m)}); err != api.OK {
				t.Errorf("Check of %d and %d bytes: %v", n, m, err)
			}
		}
	}
}

func TestCheckOfWrong(t *testing.T) {
	for want, l := range wrong() {
		for _, e := range l {
			if err := Check(e); err != want {
				t.Errorf("Check(%s): %v, not %v", show(e), err, want)
			}
		}
	}
	if err := Check(api.Event{}); err != api.ErrArg {
		t.Errorf("Check of zero: %v", err)
	}
}

func TestCheckCountsBytes(t *testing.T) {
	// Nine runes of two bytes, and 101 of them.
	if err := Check(api.Event{Type: strings.Repeat("ä", 9)}); err != api.ErrLong {
		t.Errorf("Check with a Type of 18 bytes: %v", err)
	}
	if err := Check(api.Event{Type: "a", Data: strings.Repeat("ä", 101)}); err != api.ErrLong {
		t.Errorf("Check with Data of 202 bytes: %v", err)
	}
}

func TestBytes(t *testing.T) {
	for _, c := range []struct {
		e    api.Event
		want string
	}{
		{api.Event{Type: "a", Data: "bc", Weight: 1}, "\x00\x01a\x00\x02bc\x3f\xf0\x00\x00\x00\x00\x00\x00"},
		{api.Event{Type: "a"}, "\x00\x01a\x00\x00\x00\x00\x00\x00\x00\x00\x00\x00"},
		{api.Event{Type: "a", Weight: of(1 << 63)}, "\x00\x01a\x00\x00\x80\x00\x00\x00\x00\x00\x00\x00"},
		{api.Event{Type: "\x00", Data: "\x00\xff", Weight: of(0x0102030405060708)}, "\x00\x01\x00\x00\x02\x00\xff\x01\x02\x03\x04\x05\x06\x07\x08"},
		{api.Event{Type: "ab", Weight: of(0x7ff0000000000001)}, "\x00\x02ab\x00\x00\x7f\xf0\x00\x00\x00\x00\x00\x01"},
		{api.Event{Type: "ab", Weight: of(math.MaxUint64)}, "\x00\x02ab\x00\x00\xff\xff\xff\xff\xff\xff\xff\xff"},
		{api.Event{Type: x(16), Data: x(200), Weight: math.Inf(-1)}, "\x00\x10" + x(16) + "\x00\xc8" + x(200) + "\xff\xf0\x00\x00\x00\x00\x00\x00"},
	} {
		if s := Bytes(c.e); s != c.want {
			t.Errorf("Bytes(%s): %q, not %q", show(c.e), s, c.want)
		}
	}
	for _, e := range some() {
		if s, want := Bytes(e), laid(e.Type, e.Data, math.Float64bits(e.Weight)); s != want {
			t.Errorf("Bytes(%s): %q, not %q", show(e), s, want)
		}
	}
}

func TestBytesOfWrong(t *testing.T) {
	for _, l := range wrong() {
		for _, e := range l {
			if s := Bytes(e); s != "" {
				t.Errorf("Bytes(%s): %s", show(e), head(s))
			}
		}
	}
}

// P7.2

// reads holds what is read of a text against the event and the rest that are asked for.
func reads(t *testing.T, s string, want api.Event, behind string) {
	t.Helper()
	e, rest, ok := Read(s)
	if !ok || !alike(e, want) || rest != behind {
		t.Errorf("Read(%s): %s, %s, %v", head(s), show(e), head(rest), ok)
	}
}

// readsNothing holds what is read of a text against nothing, and zero.
func readsNothing(t *testing.T, s string) {
	t.Helper()
	e, rest, ok := Read(s)
	if ok || !alike(e, api.Event{}) || rest != "" {
		t.Errorf("Read(%s): %s, %s, %v", head(s), show(e), head(rest), ok)
	}
}

func TestRead(t *testing.T) {
	reads(t, "\x00\x01a\x00\x02bc\x3f\xf0\x00\x00\x00\x00\x00\x00", api.Event{Type: "a", Data: "bc", Weight: 1}, "")
	reads(t, "\x00\x01a\x00\x02bc\x3f\xf0\x00\x00\x00\x00\x00\x00d", api.Event{Type: "a", Data: "bc", Weight: 1}, "d")
	reads(t, "\x00\x01\x00\x00\x00\x01\x02\x03\x04\x05\x06\x07\x08\x09\x0a", api.Event{Type: "\x00", Weight: of(0x0102030405060708)}, "\x09\x0a")
	for _, kind := range []int{1, 2, 15, 16} {
		for _, data := range []int{0, 1, 199, 200} {
			for _, b := range edges() {
				reads(t, laid(x(kind), x(data), b)+"rest", api.Event{Type: x(kind), Data: x(data), Weight: of(b)}, "rest")
			}
		}
	}
}

func TestReadOfNone(t *testing.T) {
	for _, s := range []string{"", "\x00", "\x01", "a", "\x00\x00", "\x00\x01", "\x00\x01a", "\x00\x01a\x00\x00", "\x00\x01a\x00\x00\x00\x00\x00\x00\x00\x00\x00", "\x00\x01a\x00\x09xxxxxxxx", "\x00\x01a\x00\xc8" + x(199), "\xff\xff" + x(300), x(300), strings.Repeat("\x00", 300)} {
		readsNothing(t, s)
	}
}

func TestReadOfWrong(t *testing.T) {
	for _, behind := range []string{"", "\x00", x(300)} {
		for _, kind := range []int{0, 17, 18, 255, 256, 257, 272, 65535} {
			for _, data := range []int{0, 1, 200} {
				readsNothing(t, laid(x(kind), x(data), 0)+behind)
				readsNothing(t, laid(x(kind), x(data), 0x3ff0000000000000)+behind)
			}
		}
		for _, data := range []int{201, 202, 255, 256, 257, 456, 65535} {
			for _, kind := range []int{0, 1, 16, 17} {
				readsNothing(t, laid(x(kind), x(data), 0x3ff0000000000000)+behind)
			}
		}
	}
}

// P7.3

func TestSame(t *testing.T) {
	base := api.Event{Type: "a", Data: "b", Weight: 1}
	for _, e := range []api.Event{
		{Type: "A", Data: "b", Weight: 1},
		{Type: "b", Data: "a", Weight: 1},
		{Type: "ab", Data: "", Weight: 1},
		{Type: "", Data: "ab", Weight: 1},
		{Type: "a", Data: "", Weight: 1},
		{Type: "a", Data: "c", Weight: 1},
		{Type: "a", Data: "b\x00", Weight: 1},
		{Type: "a\x00", Data: "b", Weight: 1},
		{Type: "a", Data: "b", Weight: 2},
		{Type: "a", Data: "b", Weight: -1},
		{Type: "a", Data: "b", Weight: of(0x3ff0000000000001)},
		{},
	} {
		if Same(base, e) || Same(e, base) {
			t.Errorf("Same of a, b, 1 and %s", show(e))
		}
	}
	if !Same(base, api.Event{Type: "a", Data: "b", Weight: 1}) || !Same(api.Event{}, api.Event{}) {
		t.Error("Same of the same is false")
	}
}

func TestSameByWeights(t *testing.T) {
	for _, b := range edges() {
		for _, c := range edges() {
			got := Same(api.Event{Type: "a", Weight: of(b)}, api.Event{Type: "a", Weight: of(c)})
			if got != (b == c) {
				t.Errorf("Same of the Weights %x and %x: %v", b, c, got)
			}
		}
	}
}

func TestSameOfThoseThatMayNotBe(t *testing.T) {
	for _, l := range wrong() {
		for _, e := range l {
			other := e
			other.Data += "y"
			if !Same(e, e) || Same(e, other) || Same(other, e) {
				t.Errorf("Same of %s", show(e))
			}
		}
	}
}

func TestAll(t *testing.T) {
	a, b := api.Event{Type: "a"}, api.Event{Type: "b"}
	minus, none := api.Event{Type: "a", Weight: of(1 << 63)}, api.Event{Type: "a", Weight: math.NaN()}
	type list = []api.Event
	for i, c := range []struct {
		a, b list
		want bool
	}{
		{nil, nil, true},
		{nil, list{}, true},
		{list{}, list{}, true},
		{list{a}, nil, false},
		{list{a}, list{}, false},
		{list{api.Event{}}, nil, false},
		{list{a}, list{a}, true},
		{list{a}, list{b}, false},
		{list{a}, list{minus}, false},
		{list{none}, list{none}, true},
		{list{none}, list{a}, false},
		{list{a, b}, list{a}, false},
		{list{a, b}, list{b}, false},
		{list{a, a}, list{a}, false},
		{list{a, b}, list{b, a}, false},
		{list{a, b}, list{a, b}, true},
		{list{a, b, none, minus}, list{a, b, none, minus}, true},
		{list{a, b, none, minus}, list{a, b, none, a}, false},
		{list{a, b, a}, list{a, b, b}, false},
	} {
		if All(c.a, c.b) != c.want || All(c.b, c.a) != c.want {
			t.Errorf("All of lists %d: %v, %v, not %v", i, All(c.a, c.b), All(c.b, c.a), c.want)
		}
	}
}

func TestAllOfOneThatIsAnother(t *testing.T) {
	l := some()
	if !All(l, slices.Clone(l)) {
		t.Fatal("All of a list and its copy is false")
	}
	for i := range l {
		for _, change := range []func(e *api.Event){
			func(e *api.Event) { e.Type += "y" },
			func(e *api.Event) { e.Data += "y" },
			func(e *api.Event) { e.Weight = of(math.Float64bits(e.Weight) ^ 1) },
			func(e *api.Event) { e.Weight = of(math.Float64bits(e.Weight) ^ 1<<63) },
		} {
			m := slices.Clone(l)
			change(&m[i])
			if All(l, m) || All(m, l) {
				t.Errorf("All of lists whose event %d is another one", i)
			}
		}
		if All(l, slices.Delete(slices.Clone(l), i, i+1)) || All(l[:i], l) || All(l[i+1:], l) {
			t.Errorf("All of lists of which one lacks event %d", i)
		}
	}
}

func TestListsStayAsTheyWere(t *testing.T) {
	l, m := some(), some()
	m[5].Data = "y"
	All(l, m)
	All(m, l[:3])
	for i, e := range some() {
		if !alike(l[i], e) || i != 5 && !alike(m[i], e) {
			t.Errorf("event %d is another one behind All", i)
		}
	}
	if m[5].Data != "y" {
		t.Error("event 5 is another one behind All")
	}
}

// P7.4

func TestReadOfBytes(t *testing.T) {
	for _, e := range some() {
		for _, behind := range []string{"", "\x00", "b", "\x00\x01", x(8), Bytes(e), strings.Repeat("\xff", 70000)} {
			reads(t, Bytes(e)+behind, e, behind)
		}
	}
}

func TestReadOneByOne(t *testing.T) {
	var all strings.Builder
	for _, e := range some() {
		all.WriteString(Bytes(e))
	}
	s := all.String()
	for i, want := range some() {
		e, rest, ok := Read(s)
		if !ok || !Same(e, want) {
			t.Fatalf("event %d: %s, %v", i, show(e), ok)
		}
		s = rest
	}
	if s != "" {
		t.Errorf("%d bytes are left", len(s))
	}
}

func TestReadOfCutOff(t *testing.T) {
	for _, e := range some() {
		s := Bytes(e)
		for n := range len(s) {
			readsNothing(t, s[:n])
		}
	}
}

// stands tells whether the bytes of an event that may be stand ahead of a text, by the lengths that stand there.
func stands(s string) bool {
	if len(s) < 2 {
		return false
	}
	kind := int(binary.BigEndian.Uint16([]byte(s)))
	if kind < 1 || kind > 16 || len(s) < kind+4 {
		return false
	}
	data := int(binary.BigEndian.Uint16([]byte(s[2+kind:])))
	return data <= 200 && len(s) >= kind+data+12
}

// heldAgainstBytes holds what is read of any text against its bytes: they are those that stood there; of a text where none stand nothing is read.
func heldAgainstBytes(t *testing.T, s string) {
	t.Helper()
	if !stands(s) {
		readsNothing(t, s)
		return
	}
	e, rest, ok := Read(s)
	if !ok || Check(e) != api.OK || Bytes(e)+rest != s || len(rest) != len(s)-len(e.Type)-len(e.Data)-12 {
		t.Errorf("Read(%s): %s, %s, %v", head(s), show(e), head(rest), ok)
	}
}

func TestBytesOfRead(t *testing.T) {
	r := rand.New(rand.NewSource(11))
	for range 20000 {
		heldAgainstBytes(t, noise(r, r.Intn(40)))
		heldAgainstBytes(t, "\x00"+string(rune(r.Intn(20)))+noise(r, r.Intn(20))+"\x00"+string(rune(r.Intn(20)))+noise(r, r.Intn(40)))
	}
	for _, e := range some() {
		s := Bytes(e) + "rest"
		for range 50 {
			b := []byte(s)
			b[r.Intn(len(b))] ^= 1 << r.Intn(8)
			heldAgainstBytes(t, string(b))
		}
	}
}

func TestUnlikeEventsHaveUnlikeBytes(t *testing.T) {
	l := some()
	for i, a := range l {
		for k, b := range l {
			if (Bytes(a) == Bytes(b)) != Same(a, b) || Same(a, b) != alike(a, b) {
				t.Errorf("events %d and %d", i, k)
			}
		}
	}
}

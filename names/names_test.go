package names

import (
	"fmt"
	"math"
	"math/rand"
	"regexp"
	"slices"
	"strconv"
	"strings"
	"testing"
)

// last is the greatest number that a name tells.
const last = 999999

// letter is one of the letters, with the function that tells its names.
type letter struct {
	kind byte
	tell func(n int) string
}

func letters() []letter { return []letter{{'c', Chunk}, {'t', Table}, {'b', Bloom}} }

// laid is a name as the chapter asks for it, by the library.
func laid(kind byte, n int) string { return fmt.Sprintf("%c%06d", kind, n) }

// told is what a name looks like that is told of some number.
var told = regexp.MustCompile(`\A[ctb][0-9]{6}\z`)

// edges are numbers at which the digits change, and some between.
func edges() []int {
	l := []int{0, 1, 7, 8, 12, 63, 64, 199, 200, 255, 256, 65535, 65536, 98765, 123456, 654321, 888888, 900000}
	for n := 10; n <= last+1; n *= 10 {
		l = append(l, n-1)
		if n < last {
			l = append(l, n, n+1)
		}
	}
	return l
}

// outside are numbers that no name tells, among them those whose lowest bits or digits would be some.
func outside() []int {
	l := []int{math.MinInt, math.MinInt + 1, math.MinInt32, -last - 2, -last - 1, -last, -100000, -256, -12, -10, -2, -1, last + 1, last + 2, 1000012, 1999999, 9999999, 10000000, 12000000, 1 << 32, 1<<32 + 12, math.MaxInt32, math.MaxInt - 1, math.MaxInt}
	for n := math.MaxInt; n > last; n /= 2 {
		l = append(l, n, -n)
	}
	return l
}

// parses holds what is parsed of a name against what is asked for.
func parses(t *testing.T, name string, wantKind byte, wantN int) {
	t.Helper()
	if kind, n, ok := Parse(name); kind != wantKind || n != wantN || !ok {
		t.Errorf("Parse(%q): %d, %d, %v, not %c, %d", name, kind, n, ok, wantKind, wantN)
	}
}

// parsesNothing asks for false, and zero beside it.
func parsesNothing(t *testing.T, name string) {
	t.Helper()
	if kind, n, ok := Parse(name); kind != 0 || n != 0 || ok {
		t.Errorf("Parse(%.40q) of %d bytes: %d, %d, %v", name, len(name), kind, n, ok)
	}
}

// parsesAs holds what is parsed of any name against what it looks like.
func parsesAs(t *testing.T, name string) {
	t.Helper()
	if !told.MatchString(name) {
		parsesNothing(t, name)
		return
	}
	n, err := strconv.Atoi(name[1:])
	if err != nil {
		t.Fatal(err)
	}
	parses(t, name, name[0], n)
}

// P10.1

func TestStream(t *testing.T) {
	for n := range 300 {
		for _, of := range []string{"x", "\x00", "\xff", "\xc3", " ", "/", "\n"} {
			if ok := Stream(strings.Repeat(of, n)); ok != (n >= 1 && n <= 32) {
				t.Errorf("Stream of %d times %q: %v", n, of, ok)
			}
		}
	}
	for _, n := range []int{1 << 8, 1<<8 + 1, 1<<8 + 32, 1 << 16, 1<<16 + 1, 1<<16 + 32, 1 << 20} {
		if Stream(strings.Repeat("x", n)) {
			t.Errorf("Stream of %d bytes: true", n)
		}
	}
}

func TestStreamOfAnyBytes(t *testing.T) {
	for b := range 256 {
		one := string([]byte{byte(b)})
		for _, s := range []string{one, one + "a", "a" + one, "a" + one + "b", strings.Repeat("x", 31) + one, one + strings.Repeat("x", 31)} {
			if !Stream(s) {
				t.Errorf("Stream(%q): false", s)
			}
		}
	}
	for _, s := range []string{Map, New, "c000000", "t000012", "b999999", "$all", "..", "\x00\x01a"} {
		if !Stream(s) {
			t.Errorf("Stream(%q): false", s)
		}
	}
	r := rand.New(rand.NewSource(10))
	for range 1000 {
		b := make([]byte, r.Intn(40))
		r.Read(b)
		if ok := Stream(string(b)); ok != (len(b) >= 1 && len(b) <= 32) {
			t.Errorf("Stream(%q): %v", b, ok)
		}
	}
}

func TestStreamCountsBytes(t *testing.T) {
	// 16 runes of two bytes, and 17 of them; 10 of three bytes with two bytes, and 11 of three bytes.
	for _, c := range []struct {
		s    string
		want bool
	}{
		{strings.Repeat("ä", 16), true},
		{strings.Repeat("ä", 16) + "a", false},
		{strings.Repeat("ä", 17), false},
		{strings.Repeat("€", 10) + "ab", true},
		{strings.Repeat("€", 11), false},
	} {
		if ok := Stream(c.s); ok != c.want {
			t.Errorf("Stream(%q) of %d bytes: %v", c.s, len(c.s), ok)
		}
	}
}

// P10.2

func TestTold(t *testing.T) {
	for _, c := range []struct{ got, want string }{
		{Chunk(0), "c000000"},
		{Chunk(1), "c000001"},
		{Chunk(199), "c000199"},
		{Chunk(999999), "c999999"},
		{Table(0), "t000000"},
		{Table(2), "t000002"},
		{Table(12), "t000012"},
		{Table(123456), "t123456"},
		{Table(999999), "t999999"},
		{Bloom(0), "b000000"},
		{Bloom(2), "b000002"},
		{Bloom(654321), "b654321"},
		{Bloom(100000), "b100000"},
		{Bloom(999999), "b999999"},
		{Chunk(1000000), ""},
		{Chunk(-1), ""},
		{Table(1000000), ""},
		{Table(-1), ""},
		{Bloom(1000000), ""},
		{Bloom(-1), ""},
	} {
		if c.got != c.want {
			t.Errorf("%q, not %q", c.got, c.want)
		}
	}
}

func TestToldOfEdges(t *testing.T) {
	for _, l := range letters() {
		for _, n := range edges() {
			if s := l.tell(n); s != laid(l.kind, n) {
				t.Errorf("of %c and %d: %q", l.kind, n, s)
			}
		}
	}
}

func TestToldOfOutside(t *testing.T) {
	for _, l := range letters() {
		for _, n := range outside() {
			if s := l.tell(n); s != "" {
				t.Errorf("of %c and %d: %q", l.kind, n, s)
			}
		}
	}
}

func TestParse(t *testing.T) {
	parses(t, "t000012", 't', 12)
	parses(t, "c000000", 'c', 0)
	parses(t, "b000000", 'b', 0)
	parses(t, "c000199", 'c', 199)
	parses(t, "t123456", 't', 123456)
	parses(t, "b654321", 'b', 654321)
	parses(t, "c100000", 'c', 100000)
	parses(t, "b999999", 'b', 999999)
	// With 0 ahead, a number is not one of eight to a digit.
	parses(t, "t000010", 't', 10)
	parses(t, "t000089", 't', 89)
}

func TestParseOfWrong(t *testing.T) {
	for _, name := range []string{
		"", "c", "t", "b", "x", "0", "t12", "t00012", "t0000012", "t0000000", "t000012 ", " t000012", "t 00012", "t00001 ", "t000012\n", "t000012\x00", "\x00t000012", "\x00\x00\x00\x00\x00\x00\x00",
		"x000012", "a000012", "d000012", "s000012", "u000012", "C000012", "T000012", "B000012", "0000012", "1000012", "\x00000012", "\xf4000012", "ct00012", "tt00012",
		"c00001a", "c0000a1", "ca00001", "c0000ff", "c+00012", "c-00012", "t-00000", "b+00000", "c1e0005", "c0x0012", "c0b0001", "c0o0007", "c1_0000", "c000_01", "c0000.1", "c00001.", "c.00001", "c00/000", "c00:000", "c00000/", "c00000:", "c/00000", "c:00000",
		"c٠٠٠", "c00001٢", "t１２３４５６", "ｔ000012", "t0000½", "t000１", "1t00002", "000012t", "000012",
		"map", "new", "map0000", "new0000", "cmap000", "tnew000", "c000012.", "t000012.tmp", "c1000000", "b999999999999", "t000012t000012", strings.Repeat("0", 7), "t" + strings.Repeat("0", 1000) + "12", strings.Repeat("c", 1<<20),
	} {
		parsesNothing(t, name)
	}
}

func TestParseOfCutOff(t *testing.T) {
	for _, l := range letters() {
		for _, n := range []int{0, 12, 123456, last} {
			name := laid(l.kind, n)
			for at := range len(name) {
				parsesNothing(t, name[:at])
				parsesNothing(t, name[at+1:])
				parsesNothing(t, name[:at]+name[at+1:])
			}
			for b := range 256 {
				more := string([]byte{byte(b)})
				for at := range len(name) + 1 {
					parsesNothing(t, name[:at]+more+name[at:])
				}
			}
		}
	}
}

func TestParseOfEachByte(t *testing.T) {
	for _, l := range letters() {
		for _, n := range []int{0, 12, 123456, 987654, last} {
			name := laid(l.kind, n)
			for at := range len(name) {
				for b := range 256 {
					parsesAs(t, name[:at]+string([]byte{byte(b)})+name[at+1:])
				}
			}
		}
	}
}

func TestParseOfTwoBytes(t *testing.T) {
	// The bytes about the digits and the letters, at each two places.
	about := "\x00+-./0159:;ABCTabcdstu_\x80\xff"
	name := laid('t', 123456)
	for i := range len(name) {
		for j := i + 1; j < len(name); j++ {
			for _, a := range []byte(about) {
				for _, b := range []byte(about) {
					text := []byte(name)
					text[i], text[j] = a, b
					parsesAs(t, string(text))
				}
			}
		}
	}
}

func TestParseOfNoise(t *testing.T) {
	r := rand.New(rand.NewSource(11))
	for range 20000 {
		b := make([]byte, r.Intn(10))
		r.Read(b)
		parsesAs(t, string(b))
	}
	const near = "ctb0123456789"
	for range 20000 {
		b := make([]byte, 6+r.Intn(3))
		for i := range b {
			b[i] = near[r.Intn(len(near))]
		}
		b[0] = near[r.Intn(4)]
		parsesAs(t, string(b))
	}
}

// P10.3

func TestAllNumbers(t *testing.T) {
	for _, l := range letters() {
		before := ""
		for n := range last + 1 {
			name := l.tell(n)
			if len(name) != 7 || name[0] != l.kind {
				t.Fatalf("of %c and %d: %q", l.kind, n, name)
			}
			// Each one above the one ahead of it is enough: so each two stand as their numbers do.
			if name <= before {
				t.Fatalf("of %c: %q does not stand behind %q", l.kind, name, before)
			}
			before = name
			if number, err := strconv.Atoi(name[1:]); err != nil || number != n {
				t.Fatalf("of %c and %d: %q", l.kind, n, name)
			}
			if kind, number, ok := Parse(name); kind != l.kind || number != n || !ok {
				t.Fatalf("Parse(%q): %d, %d, %v", name, kind, number, ok)
			}
		}
	}
}

func TestNamesStandAsTheirNumbers(t *testing.T) {
	for _, l := range letters() {
		for _, a := range edges() {
			for _, b := range edges() {
				x, y := l.tell(a), l.tell(b)
				if (a < b) != (x < y) || (a == b) != (x == y) {
					t.Errorf("of %c: %d and %d do not stand as %q and %q", l.kind, a, b, x, y)
				}
			}
		}
	}
}

// tells is the name that one of the functions tells of a letter and a number.
func tells(kind byte, n int) string {
	at := slices.IndexFunc(letters(), func(l letter) bool { return l.kind == kind })
	if at < 0 {
		return ""
	}
	return letters()[at].tell(n)
}

func TestParsedIsTold(t *testing.T) {
	r := rand.New(rand.NewSource(12))
	const near = "ctb0123456789 -+."
	parsed := 0
	for range 200000 {
		b := make([]byte, 7)
		for i := range b {
			b[i] = near[r.Intn(len(near))]
		}
		b[0] = near[r.Intn(4)]
		name := string(b)
		kind, n, ok := Parse(name)
		if !ok {
			continue
		}
		parsed++
		if again := tells(kind, n); again != name {
			t.Errorf("Parse(%q): %c and %d, of which %q is told", name, kind, n, again)
		}
	}
	if parsed < 1000 {
		t.Errorf("%d names were parsed", parsed)
	}
}

func TestNamesOfDifferentLettersDiffer(t *testing.T) {
	for _, n := range edges() {
		if c, b, l := Chunk(n), Bloom(n), Table(n); c == b || b == l || l == c {
			t.Errorf("of %d: %q, %q, %q", n, c, b, l)
		}
	}
}

func TestFilesThatAreThereOnce(t *testing.T) {
	if Map != "map" || New != "new" {
		t.Errorf("%q, %q", Map, New)
	}
	parsesNothing(t, Map)
	parsesNothing(t, New)
}

// A disk has no room for longer names of files.
func TestFilesNamesAreShort(t *testing.T) {
	for _, name := range []string{Map, New, Chunk(last), Table(last), Bloom(last)} {
		if len(name) < 1 || len(name) > 12 {
			t.Errorf("%q has %d bytes", name, len(name))
		}
	}
}

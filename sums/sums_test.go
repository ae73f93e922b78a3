package sums

import (
	"hash/crc32"
	"math/rand"
	"strings"
	"testing"
)

// texts are short and long ones, of bytes of all kinds.
func texts() []string {
	l := []string{"", "a", "b", "ab", "ba", "123456789", "\x00", "\x00\x00", "\x00\x00\x00\x00", "\xff\xff\xff\xff", "\x20\x83\xb8\xed", "ä€", strings.Repeat("x", 4096)}
	r := rand.New(rand.NewSource(2))
	for n := range 70 {
		b := make([]byte, n)
		r.Read(b)
		l = append(l, string(b))
	}
	return l
}

// flipped is a text with the bits of a mask of 32 turned over, from a bit on (the lowest one of a byte first); false, if the mask does not find room there.
func flipped(s string, at int, mask uint32) (string, bool) {
	b := []byte(s)
	for i := range 32 {
		if mask>>i&1 == 0 {
			continue
		}
		if (at+i)/8 >= len(b) {
			return "", false
		}
		b[(at+i)/8] ^= 1 << ((at + i) % 8)
	}
	return string(b), true
}

// masks are bits to be turned over within four bytes: single ones, runs, and some of no pattern.
func masks() []uint32 {
	l := []uint32{1<<32 - 1, 0x80000001, 0xEDB88320, 0xEDB88321, 0xDB710641, 0x04C11DB7, 0xAAAAAAAA, 0x55555555}
	for i := range 32 {
		l = append(l, 1<<i, 1<<32-1-1<<i, 1<<i-1|1<<31)
	}
	r := rand.New(rand.NewSource(3))
	for range 100 {
		l = append(l, r.Uint32()|1)
	}
	return l
}

// P2.1

func TestSum(t *testing.T) {
	for _, c := range []struct {
		s    string
		want uint32
	}{
		{"", 0},
		{"123456789", 0xCBF43926},
		{"a", 0xE8B7BE43},
		{"\x00", 0xD202EF8D},
		{"\xff", 0xFF000000},
		{"\x00\x00\x00\x00", 0x2144DF1C},
		{"\xff\xff\xff\xff", 0xFFFFFFFF},
	} {
		if n := Sum(c.s); n != c.want {
			t.Errorf("Sum(%q): %X, not %X", c.s, n, c.want)
		}
	}
	for _, s := range texts() {
		if n, want := Sum(s), crc32.ChecksumIEEE([]byte(s)); n != want {
			t.Errorf("Sum(%q): %X, not %X", s, n, want)
		}
	}
}

func TestSumOfEachByte(t *testing.T) {
	for b := range 256 {
		s := string([]byte{byte(b)})
		if n, want := Sum(s), crc32.ChecksumIEEE([]byte(s)); n != want {
			t.Errorf("Sum of a byte %d: %X, not %X", b, n, want)
		}
	}
}

func TestMore(t *testing.T) {
	for _, c := range []struct {
		sum  uint32
		s    string
		want uint32
	}{
		{0, "", 0},
		{5, "", 5},
		{1<<32 - 1, "", 1<<32 - 1},
		{0, "123456789", 0xCBF43926},
		{0xE8B7BE43, "", 0xE8B7BE43},
		{0xE8B7BE43, "b", 0x9E83486D},
	} {
		if n := More(c.sum, c.s); n != c.want {
			t.Errorf("More(%X, %q): %X, not %X", c.sum, c.s, n, c.want)
		}
	}
	for _, sum := range []uint32{0, 1, 1 << 31, 0xEDB88320, 1<<32 - 1} {
		for _, s := range texts() {
			if n, want := More(sum, s), crc32.Update(sum, crc32.IEEETable, []byte(s)); n != want {
				t.Errorf("More(%X, %q): %X, not %X", sum, s, n, want)
			}
		}
	}
}

// P2.2

func TestSeal(t *testing.T) {
	for _, c := range []struct{ s, want string }{
		{"", "\x00\x00\x00\x00"},
		{"a", "a\x43\xbe\xb7\xe8"},
		{"\x00", "\x00\x8d\xef\x02\xd2"},
		{"123456789", "123456789\x26\x39\xf4\xcb"},
		{"\x00\x00\x00\x00", "\x00\x00\x00\x00\x1c\xdf\x44\x21"},
	} {
		if s := Seal(c.s); s != c.want {
			t.Errorf("Seal(%q): %q, not %q", c.s, s, c.want)
		}
	}
}

func TestOpen(t *testing.T) {
	for _, c := range []struct {
		s, text string
		ok      bool
	}{
		{"\x00\x00\x00\x00", "", true},
		{"a\x43\xbe\xb7\xe8", "a", true},
		{"123456789\x26\x39\xf4\xcb", "123456789", true},
		{"", "", false},
		{"\x00", "", false},
		{"\x00\x00", "", false},
		{"\x00\x00\x00", "", false},
		{"a\x43\xbe", "", false},
		{"\x00\x00\x00\x01", "", false},
		{"\x01\x00\x00\x00", "", false},
		{"\x00\x00\x00\x00\x00", "", false},
		{"\xff\xff\xff\xff", "", false},
		{"a\xe8\xb7\xbe\x43", "", false},
		{"b\x43\xbe\xb7\xe8", "", false},
		{"a\x43\xbe\xb7\xe8\x00", "", false},
		{"\x43\xbe\xb7\xe8a", "", false},
		{"a\xbc\x41\x48\x17", "", false},
	} {
		if text, ok := Open(c.s); text != c.text || ok != c.ok {
			t.Errorf("Open(%q): %q, %v", c.s, text, ok)
		}
	}
}

// P2.3

func TestMoreOfSum(t *testing.T) {
	for _, a := range texts() {
		if n, want := More(0, a), Sum(a); n != want {
			t.Errorf("More(0, %q): %X, not %X", a, n, want)
		}
		for _, b := range texts() {
			if n, want := More(Sum(a), b), Sum(a+b); n != want {
				t.Fatalf("More(Sum(%q), %q): %X, not %X", a, b, n, want)
			}
		}
	}
}

func TestOpenOfSeal(t *testing.T) {
	for _, s := range texts() {
		x := Seal(s)
		if text, ok := Open(x); text != s || !ok {
			t.Errorf("Open(Seal(%q)): %q, %v", s, text, ok)
		}
		if text, ok := Open(Seal(x)); text != x || !ok {
			t.Errorf("Open(Seal(Seal(%q))): %q, %v", s, text, ok)
		}
	}
}

// What is cut off, or has something put on it, is opened just where it is sealed by chance.
func TestOpenOfNoneThatIsSealed(t *testing.T) {
	for _, s := range texts() {
		x := Seal(s)
		for _, y := range []string{x + "\x00", "\x00" + x, x[:len(x)-1], x[1:], s, s + s, x[:len(s)] + "\x00\x00\x00\x00"} {
			want := len(y) >= 4 && Seal(y[:len(y)-4]) == y
			text, ok := Open(y)
			if ok != want || ok && text != y[:len(y)-4] || !ok && text != "" {
				t.Errorf("Open(%q): %q, %v", y, text, ok)
			}
		}
	}
	for b := range 256 {
		x := Seal("abc")[:6] + string([]byte{byte(b)})
		if _, ok := Open(x); ok != (x == Seal("abc")) {
			t.Errorf("Open(%q): %v", x, ok)
		}
	}
}

func TestBitsTurnedOver(t *testing.T) {
	for _, s := range []string{"a", "\x00\x00\x00\x00\x00", "annalist", strings.Repeat("\xff", 20), strings.Repeat("ab", 40)} {
		x, sum := Seal(s), Sum(s)
		for at := range 8 * len(x) {
			for _, mask := range masks() {
				if y, ok := flipped(s, at, mask); ok && Sum(y) == sum {
					t.Fatalf("Sum(%q): that of %q", y, s)
				}
				y, ok := flipped(x, at, mask)
				if !ok {
					continue
				}
				if text, opened := Open(y); opened || text != "" {
					t.Fatalf("Open(%q): %q, as of %q", y, text, x)
				}
			}
		}
	}
}

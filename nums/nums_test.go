package nums

import (
	"math"
	"strings"
	"testing"
)

// numbers are the edges of each size, and some between.
var numbers = []uint64{0, 1, 2, 127, 128, 255, 256, 257, 258, 1<<16 - 1, 1 << 16, 1<<24 + 5, 1<<32 - 1, 1 << 32, 0x0102030405060708, 1<<56 - 1, 1 << 56, 1<<63 - 1, 1 << 63, 1<<64 - 2, 1<<64 - 1}

// texts are of the lengths at which the bytes of the length change.
func texts() []string {
	l := []string{"", "a", "ab", "\x00", "\x00\x00", "\xff\xff", "\x00\x02ab", "ä€"}
	for _, n := range []int{255, 256, 257, 65534, 65535} {
		l = append(l, strings.Repeat("x", n))
	}
	return l
}

// modulo is n modulo 2 to the 8 size; a shift by 64 bits leaves nothing, and 0 less 1 is all bits then.
func modulo(n uint64, size int) uint64 { return n & (1<<(8*size) - 1) }

// P1.1

func TestPut(t *testing.T) {
	for _, c := range []struct {
		n    uint64
		size int
		want string
	}{
		{258, 2, "\x01\x02"},
		{258, 1, "\x02"},
		{1, 3, "\x00\x00\x01"},
		{0, 1, "\x00"},
		{0, 8, "\x00\x00\x00\x00\x00\x00\x00\x00"},
		{0x0102030405060708, 1, "\x08"},
		{0x0102030405060708, 4, "\x05\x06\x07\x08"},
		{0x0102030405060708, 7, "\x02\x03\x04\x05\x06\x07\x08"},
		{0x0102030405060708, 8, "\x01\x02\x03\x04\x05\x06\x07\x08"},
		{math.MaxUint64, 8, "\xff\xff\xff\xff\xff\xff\xff\xff"},
	} {
		if s := Put(c.n, c.size); s != c.want {
			t.Errorf("Put(%d, %d): %q, not %q", c.n, c.size, s, c.want)
		}
	}
}

func TestPutOfNoSize(t *testing.T) {
	for _, size := range []int{math.MinInt, -8, -1, 0, 9, 10, 16, 256, math.MaxInt} {
		for _, n := range numbers {
			if s := Put(n, size); s != "" {
				t.Errorf("Put(%d, %d): %q", n, size, s)
			}
		}
	}
}

func TestGet(t *testing.T) {
	for _, c := range []struct {
		s    string
		want uint64
	}{
		{"", 0},
		{"\x00", 0},
		{"\x05", 5},
		{"\xff", 255},
		{"\x01\x02", 258},
		{"\x00\x00\x01", 1},
		{"\x01\x02\x03\x04\x05\x06\x07", 0x01020304050607},
		{"\x01\x02\x03\x04\x05\x06\x07\x08", 0x0102030405060708},
		{"\x80\x00\x00\x00\x00\x00\x00\x00", 1 << 63},
		{"\x01\x02\x03\x04\x05\x06\x07\x08\x09", 0x0102030405060708},
		{"\x00\x00\x00\x00\x00\x00\x00\x01\xff", 1},
		{strings.Repeat("\xff", 9), math.MaxUint64},
		{"\x01" + strings.Repeat("\x00", 1000), 1 << 56},
	} {
		if n := Get(c.s); n != c.want {
			t.Errorf("Get(%q): %d, not %d", c.s, n, c.want)
		}
	}
}

// P1.2

func TestText(t *testing.T) {
	for _, c := range []struct{ s, ahead string }{
		{"", "\x00\x00"},
		{"ab", "\x00\x02"},
		{"\x00", "\x00\x01"},
		{"ä", "\x00\x02"},
		{strings.Repeat("x", 255), "\x00\xff"},
		{strings.Repeat("x", 256), "\x01\x00"},
		{strings.Repeat("x", 258), "\x01\x02"},
		{strings.Repeat("x", 65535), "\xff\xff"},
	} {
		if x := Text(c.s); x != c.ahead+c.s {
			t.Errorf("Text of %d bytes: %d bytes", len(c.s), len(x))
		}
	}
}

func TestTextTooLong(t *testing.T) {
	for _, n := range []int{65536, 65537, 65538, 1 << 17, 1<<17 + 2} {
		if x := Text(strings.Repeat("x", n)); x != "" {
			t.Errorf("Text of %d bytes: %d bytes", n, len(x))
		}
	}
}

func TestRead(t *testing.T) {
	for _, c := range []struct{ s, text, rest string }{
		{"\x00\x00", "", ""},
		{"\x00\x00a", "", "a"},
		{"\x00\x02ab", "ab", ""},
		{"\x00\x02abc", "ab", "c"},
		{"\x00\x01\x00\x00\x00", "\x00", "\x00\x00"},
		{"\x01\x00" + strings.Repeat("y", 257), strings.Repeat("y", 256), "y"},
		{"\xff\xff" + strings.Repeat("y", 65535), strings.Repeat("y", 65535), ""},
	} {
		text, rest, ok := Read(c.s)
		if text != c.text || rest != c.rest || !ok {
			t.Errorf("Read of %d bytes: %d bytes, %d bytes, %v", len(c.s), len(text), len(rest), ok)
		}
	}
}

func TestReadOfTooFew(t *testing.T) {
	for _, s := range []string{"", "\x00", "\x01", "\xff", "\x00\x01", "\x00\x03ab", "\x01\x00abc", "\x01\x00" + strings.Repeat("y", 255), "\xff\xff", "\xff\xff" + strings.Repeat("y", 65534)} {
		text, rest, ok := Read(s)
		if text != "" || rest != "" || ok {
			t.Errorf("Read of %d bytes: %d bytes, %d bytes, %v", len(s), len(text), len(rest), ok)
		}
	}
}

// P1.3

func TestGetOfPut(t *testing.T) {
	for _, n := range numbers {
		for size := 1; size <= 8; size++ {
			s := Put(n, size)
			if len(s) != size || Get(s) != modulo(n, size) {
				t.Errorf("Get(Put(%d, %d)): %d, not %d", n, size, Get(s), modulo(n, size))
			}
		}
	}
}

func TestPutOfGet(t *testing.T) {
	for _, s := range []string{"\x00", "\x01", "\xff", "\x00\x00", "\x00\x01", "abc", "\xff\x00\xff", "\x00\x00\x00\x00", "hello", "\x80\x00\x00\x00\x00\x01", "\x00seven7", "\x00\x00\x00\x00\x00\x00\x00\x00", "\xff\xfe\xfd\xfc\xfb\xfa\xf9\xf8"} {
		if x := Put(Get(s), len(s)); x != s {
			t.Errorf("Put(Get(%q), %d): %q", s, len(s), x)
		}
	}
}

func TestReadOfText(t *testing.T) {
	for _, s := range texts() {
		for _, behind := range []string{"", "\x00", "b", "\x00\x05", Text("other"), strings.Repeat("z", 70000)} {
			text, rest, ok := Read(Text(s) + behind)
			if text != s || rest != behind || !ok {
				t.Errorf("Read(Text of %d bytes, and %d behind): %d bytes, %d bytes, %v", len(s), len(behind), len(text), len(rest), ok)
			}
		}
	}
}

func TestReadOfCutOff(t *testing.T) {
	for _, s := range texts() {
		whole := Text(s)
		for n := range len(whole) {
			if text, rest, ok := Read(whole[:n]); text != "" || rest != "" || ok {
				t.Fatalf("Read(Text of %d bytes, cut off at %d): %d bytes, %d bytes, %v", len(s), n, len(text), len(rest), ok)
			}
		}
	}
}

func TestNumbersStandAsTheirBytes(t *testing.T) {
	for size := 1; size <= 8; size++ {
		for _, a := range numbers {
			for _, b := range numbers {
				n, m := modulo(a, size), modulo(b, size)
				x, y := Put(n, size), Put(m, size)
				if (n < m) != (x < y) || (n == m) != (x == y) {
					t.Errorf("of %d bytes: %d and %d do not stand as %q and %q", size, n, m, x, y)
				}
			}
		}
	}
}

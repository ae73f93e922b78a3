package blooms

import (
	"math"
	"math/big"
	"math/bits"
	"math/rand"
	"slices"
	"strings"
	"testing"
)

// The bounds as the chapter names them.
const (
	greatest = 1000000 // bits that are made
	probing  = 64      // probes that are asked
)

// steady is a hash without a pattern, whose first probes among 480 bits, and the one behind the last, are told in fixed numbers.
const steady = 0x9e3779b97f4a7c15

// someHashes are edges, single bits, and some of no pattern; no two are one.
func someHashes() []uint64 {
	l := []uint64{0, 3, 5, 6, 7, 255, 1<<17 - 1, 1<<17 + 1, 1<<32 - 1, steady, math.MaxUint64 - 1<<17, math.MaxUint64 - 1, math.MaxUint64}
	for i := range 64 {
		l = append(l, 1<<i)
	}
	r := rand.New(rand.NewSource(14))
	for range 40 {
		l = append(l, r.Uint64())
	}
	return l
}

// drawn is so many hashes of no pattern.
func drawn(r *rand.Rand, n int) []uint64 {
	l := make([]uint64, n)
	for i := range l {
		l[i] = r.Uint64()
	}
	return l
}

// probed is a probe as the chapter tells it, in numbers that have no end, and modulo 2^64 by hand.
func probed(h uint64, i, n int) int {
	if n < 1 || i < 0 {
		return 0
	}
	step := bits.RotateLeft64(h, 64-17) | 1
	p := new(big.Int).Mul(big.NewInt(int64(i)), new(big.Int).SetUint64(step))
	p.Add(p, new(big.Int).SetUint64(h))
	p.Mod(p, new(big.Int).Lsh(big.NewInt(1), 64))
	return int(p.Mod(p, big.NewInt(int64(n))).Int64())
}

// asks is the probes of a hash, from 0 to below so many, 64 at most.
func asks(h uint64, probes, n int) []int {
	var l []int
	for i := 0; i < probes && i < probing; i++ {
		l = append(l, probed(h, i, n))
	}
	return l
}

// laid is so many bits, of which those are set that stand in a list: written from the bits' side, each as a letter, the highest of a byte first.
func laid(set []int, n int) string {
	is := make([]bool, n)
	for _, b := range set {
		is[b] = true
	}
	var s strings.Builder
	for front := 0; front < n; front += 8 {
		value := 0
		for b := front + 7; b >= front; b-- {
			value *= 2
			if is[b] {
				value++
			}
		}
		s.WriteByte(byte(value))
	}
	return s.String()
}

// made is what is to be made of hashes, where so many bits may be.
func made(hashes []uint64, probes, n int) string {
	var set []int
	for _, h := range hashes {
		set = append(set, asks(h, probes, n)...)
	}
	return laid(set, n)
}

// isSet tells whether a bit is set, by how often its value goes into the byte.
func isSet(s string, b int) bool {
	value := 1
	for range b % 8 {
		value *= 2
	}
	return int(s[b/8])/value%2 == 1
}

// has is what is to be told of a hash.
func has(s string, probes int, h uint64) bool {
	if s == "" {
		return true
	}
	for _, b := range asks(h, probes, 8*len(s)) {
		if !isSet(s, b) {
			return false
		}
	}
	return true
}

// without is bits that are all set, but one.
func without(b, n int) string {
	var set []int
	for other := range n {
		if other != b {
			set = append(set, other)
		}
	}
	return laid(set, n)
}

// P14.1

func TestProbe(t *testing.T) {
	for _, c := range []struct {
		h       uint64
		i, bits int
		want    int
	}{
		{5, 0, 8, 5},
		{5, 3, 8, 0},
		{5, 1, 0, 0},
		{5, 1, 8, 6},
		{0, 0, 1, 0},
		{0, 7, 1, 0},
		{0, 1, 8, 1},
		{0, 9, 8, 1},
		{0, 9, 1000, 9},
		{1, 1, 480, 130},
		{1, 2, 480, 259},
		{7, 1, 480, 424},
		{7, 5, 480, 172},
		{7, 15, 960, 22},
		{1 << 17, 1, 8, 1},
		{1<<17 - 1, 2, 9, 3},
		{1 << 18, 3, 1000003, 262153},
		{1 << 63, 1, 481, 32},
		{0x0102030405060708, 15, 57600, 5301},
		{steady, 0, 480, 85},
		{steady, 1, 480, 90},
		{steady, 63, 480, 400},
		{steady, 64, 480, 149},
		{steady, math.MaxInt, 480, 208},
		{steady, 15, 1000000, 324096},
		{steady, 15, math.MaxInt, 4672937996859324096},
		{math.MaxUint64, 0, 480, 255},
		{math.MaxUint64, 1, 480, 254},
		{math.MaxUint64, 1, 7, 0},
		{math.MaxUint64, math.MaxInt, 480, 128},
		{math.MaxUint64, 0, math.MaxInt, 1},
		{math.MaxUint64, 1, math.MaxInt, 0},
		{0, math.MaxInt, math.MaxInt, 0},
		{0, math.MaxInt, math.MaxInt - 1, 1},
	} {
		if b := Probe(c.h, c.i, c.bits); b != c.want {
			t.Errorf("Probe(%d, %d, %d): %d, not %d", c.h, c.i, c.bits, b, c.want)
		}
	}
}

func TestProbeAsTold(t *testing.T) {
	numbers := []int{0, 1, 2, 3, 15, 16, 63, 64, 65, 1000, 1 << 31, 1 << 62, math.MaxInt - 1, math.MaxInt}
	for _, h := range someHashes() {
		for _, i := range numbers {
			for _, n := range []int{1, 2, 3, 7, 8, 9, 24, 480, 481, 960, 57600, 1000000, 1000001, 1 << 40, math.MaxInt - 1, math.MaxInt} {
				b, want := Probe(h, i, n), probed(h, i, n)
				if b != want || b < 0 || b >= n {
					t.Fatalf("Probe(%d, %d, %d): %d, not %d", h, i, n, b, want)
				}
			}
		}
	}
}

func TestProbeOfNoBitsAndOfNumbersBelow(t *testing.T) {
	below := []int{math.MinInt, math.MinInt + 1, -1 << 32, -480, -8, -1}
	for _, h := range someHashes() {
		for _, n := range below {
			for _, other := range append(below, 0, 1, 7, 8, 480, math.MaxInt) {
				if b := Probe(h, other, n); b != 0 {
					t.Fatalf("Probe(%d, %d, %d): %d", h, other, n, b)
				}
				if b := Probe(h, n, other); b != 0 {
					t.Fatalf("Probe(%d, %d, %d): %d", h, n, other, b)
				}
			}
		}
		for _, i := range []int{0, 1, 63, math.MaxInt} {
			if b := Probe(h, i, 0); b != 0 {
				t.Fatalf("Probe(%d, %d, 0): %d", h, i, b)
			}
		}
	}
}

// P14.2

func TestMake(t *testing.T) {
	for _, c := range []struct {
		hashes       []uint64
		probes, bits int
		want         string
	}{
		{[]uint64{0}, 2, 8, "\x03"},
		{nil, 2, 8, "\x00"},
		{[]uint64{}, 2, 8, "\x00"},
		{nil, 0, 24, "\x00\x00\x00"},
		{[]uint64{0}, 2, 9, ""},
		{[]uint64{7}, 4, 16, "\x80\x07"},
		{[]uint64{7}, 4, 24, "\x82\x04\x01"},
		{[]uint64{5}, 3, 24, "\x20\x80\x40"},
		{[]uint64{0, 5}, 2, 24, "\x23\x00\x40"},
		{[]uint64{5, 0}, 2, 24, "\x23\x00\x40"},
		{[]uint64{5, 0, 5, 5, 0}, 2, 24, "\x23\x00\x40"},
		{[]uint64{math.MaxUint64}, 5, 24, "\x00\xf8\x00"},
		{[]uint64{steady}, 4, 64, "\x10\x00\x20\x80\x00\x00\x00\x04"},
		{[]uint64{steady, 1, 1 << 63}, 16, 64, "\xff\xff\x23\x89\x04\x12\x48\x24"},
		{[]uint64{8}, 1, 16, "\x00\x01"},
		{[]uint64{15}, 1, 16, "\x00\x80"},
		{[]uint64{0}, 7, 8, "\x7f"},
		{[]uint64{0}, 8, 8, "\xff"},
		{[]uint64{1 << 17}, 8, 8, "\xff"},
		{[]uint64{0, 5, 7}, 0, 8, "\x00"},
		{[]uint64{0, 5, 7}, -1, 8, "\x00"},
		{[]uint64{0, 5, 7}, math.MinInt, 16, "\x00\x00"},
	} {
		if s := Make(c.hashes, c.probes, c.bits); s != c.want {
			t.Errorf("Make(%v, %d, %d): %x, not %x", c.hashes, c.probes, c.bits, s, c.want)
		}
	}
}

func TestMakeOfBitsThatMayNotBe(t *testing.T) {
	l := []int{math.MinInt, math.MinInt + 8, -1000000, -480, -16, -8, -7, -1, 0, 1 << 20, 1 << 31, 1 << 32, 1 << 40, 1<<40 + 8, math.MaxInt - 7, math.MaxInt - 3, math.MaxInt}
	for n := 1; n <= 1000; n++ {
		if n%8 != 0 {
			l = append(l, n)
		}
	}
	for n := greatest - 7; n <= greatest+80; n++ {
		if n != greatest {
			l = append(l, n)
		}
	}
	for _, n := range l {
		for _, hashes := range [][]uint64{nil, {0}, {1, 2, math.MaxUint64}} {
			for _, probes := range []int{-1, 0, 1, 4, 65} {
				if s := Make(hashes, probes, n); s != "" {
					t.Fatalf("Make(%v, %d, %d): %d bytes", hashes, probes, n, len(s))
				}
			}
		}
	}
}

func TestMakeOfAllNumbersOfBits(t *testing.T) {
	for n := 8; n <= 2000; n += 8 {
		for _, hashes := range [][]uint64{nil, {7}, {5, math.MaxUint64, steady}} {
			if s, want := Make(hashes, 4, n), made(hashes, 4, n); s != want || len(s) != n/8 {
				t.Fatalf("Make(%v, 4, %d): %x, not %x", hashes, n, s, want)
			}
		}
	}
	for _, n := range []int{57600, greatest - 16, greatest - 8, greatest} {
		if s := Make(someHashes(), 16, n); s != made(someHashes(), 16, n) || len(s) != n/8 {
			t.Fatalf("Make of %d bits: %d bytes, not those that were to be", n, len(s))
		}
	}
}

func TestMakeOfOneHash(t *testing.T) {
	for _, h := range someHashes() {
		for _, probes := range []int{math.MinInt, -1, 0, 1, 2, 4, 16, 63, 64, 65, 1000, math.MaxInt} {
			for _, n := range []int{8, 24, 480, 4096} {
				if s, want := Make([]uint64{h}, probes, n), made([]uint64{h}, probes, n); s != want {
					t.Fatalf("Make of %d, %d, %d: %x, not %x", h, probes, n, s, want)
				}
			}
		}
	}
}

func TestMakeOfNoise(t *testing.T) {
	r := rand.New(rand.NewSource(141))
	for range 3000 {
		hashes, probes, n := drawn(r, r.Intn(20)), r.Intn(20)-1, 8*(1+r.Intn(120))
		if s, want := Make(hashes, probes, n), made(hashes, probes, n); s != want {
			t.Fatalf("Make(%v, %d, %d): %x, not %x", hashes, probes, n, s, want)
		}
	}
}

func TestMakeOfMoreProbesThanAreAsked(t *testing.T) {
	// The hash 0 asks the bits from 0 on, one by one.
	for _, c := range []struct {
		probes int
		want   string
	}{
		{63, strings.Repeat("\xff", 7) + "\x7f\x00"},
		{64, strings.Repeat("\xff", 8) + "\x00"},
		{65, strings.Repeat("\xff", 8) + "\x00"},
		{72, strings.Repeat("\xff", 8) + "\x00"},
		{math.MaxInt, strings.Repeat("\xff", 8) + "\x00"},
	} {
		if s := Make([]uint64{0}, c.probes, 72); s != c.want {
			t.Errorf("Make of 0, %d, 72: %x, not %x", c.probes, s, c.want)
		}
	}
}

func TestMakeLeavesTheList(t *testing.T) {
	hashes := someHashes()
	s := Make(hashes, 5, 960)
	if !slices.Equal(hashes, someHashes()) {
		t.Error("another list behind Make")
	}
	// How the list stands, and what stands there twice, makes no difference.
	slices.Reverse(hashes)
	if again := Make(append(hashes, hashes...), 5, 960); again != s {
		t.Errorf("turned about, and twice: %x, not %x", again, s)
	}
}

func TestHas(t *testing.T) {
	for _, c := range []struct {
		array  string
		probes int
		h      uint64
		want   bool
	}{
		{"\x03", 2, 0, true},
		{"\x03", 3, 0, false},
		{"", 2, 0, true},
		{"", 0, 0, true},
		{"", -1, steady, true},
		{"", math.MaxInt, math.MaxUint64, true},
		{"\x00", 0, 0, true},
		{"\x00", -1, 5, true},
		{"\x00", math.MinInt, 5, true},
		{"\x00", 1, 0, false},
		{"\x01", 1, 0, true},
		{"\x01", 1, 8, true},
		{"\x01", 1, 1, false},
		{"\x01\x00", 1, 8, false},
		{"\x00\x01", 1, 8, true},
		{"\x00\x80", 1, 15, true},
		{"\x80\x00", 1, 15, false},
		{"\x00\x01", 1, 15, false},
		{"\x20\x80\x40", 3, 5, true},
		{"\x20\x80\x00", 3, 5, false},
		{"\x00\x80\x40", 3, 5, false},
		{"\x20\x00\x40", 3, 5, false},
		{"\x20\x00\x40", 2, 5, true},
		{"\xdf\x7f\xbf", 1, 5, false},
		{"\xff\xff\xff", 64, 5, true},
		{"\xff", math.MaxInt, math.MaxUint64, true},
		{"\x00", math.MaxInt, math.MaxUint64, false},
	} {
		if ok := Has(c.array, c.probes, c.h); ok != c.want {
			t.Errorf("Has(%x, %d, %d): %v", c.array, c.probes, c.h, ok)
		}
	}
}

func TestHasOfMoreProbesThanAreAsked(t *testing.T) {
	for _, c := range []struct {
		array  string
		probes int
		want   bool
	}{
		{strings.Repeat("\xff", 7) + "\x7f\x00", 63, true},
		{strings.Repeat("\xff", 7) + "\x7f\x00", 64, false},
		{strings.Repeat("\xff", 7) + "\x7f\x00", math.MaxInt, false},
		{strings.Repeat("\xff", 8) + "\x00", 64, true},
		{strings.Repeat("\xff", 8) + "\x00", 65, true},
		{strings.Repeat("\xff", 8) + "\x00", math.MaxInt, true},
		{strings.Repeat("\xff", 7) + "\xfe\x01", 65, false},
	} {
		if ok := Has(c.array, c.probes, 0); ok != c.want {
			t.Errorf("Has(%x, %d, 0): %v", c.array, c.probes, ok)
		}
	}
}

func TestHasWithoutOneBit(t *testing.T) {
	for _, n := range []int{8, 24, 72, 480} {
		for b := range n {
			array := without(b, n)
			for _, h := range []uint64{0, 1, 5, steady, 1 << 63, math.MaxUint64} {
				for _, probes := range []int{0, 1, 4, 16, 63, 64, 65, math.MaxInt} {
					want := !slices.Contains(asks(h, probes, n), b)
					if ok := Has(array, probes, h); ok != want {
						t.Fatalf("Has of all of %d bits but %d, %d, %d: %v", n, b, probes, h, ok)
					}
				}
			}
		}
	}
}

func TestHasOfEachProbe(t *testing.T) {
	for _, h := range someHashes() {
		for probes := range probing + 2 {
			// All that are asked are set, and no others.
			array := laid(asks(h, probes, 4096), 4096)
			for _, other := range []int{probes - 1, probes, probes + 1, probing, math.MaxInt} {
				if ok, want := Has(array, other, h), has(array, other, h); ok != want {
					t.Fatalf("Has of the bits of %d probes, %d, %d: %v", probes, other, h, ok)
				}
			}
		}
	}
}

func TestHasOfNoise(t *testing.T) {
	r := rand.New(rand.NewSource(142))
	told := [2]int{}
	for range 40000 {
		b := make([]byte, r.Intn(20))
		for i := range b {
			b[i] = byte(r.Uint32() | r.Uint32() | r.Uint32())
		}
		array, probes, h := string(b), r.Intn(12)-1, r.Uint64()
		want := has(array, probes, h)
		if ok := Has(array, probes, h); ok != want {
			t.Fatalf("Has(%x, %d, %d): %v", array, probes, h, ok)
		}
		if want {
			told[1]++
		} else {
			told[0]++
		}
	}
	if told[0] < 1000 || told[1] < 1000 {
		t.Errorf("of noise so many are not there, and there: %v", told)
	}
}

func TestHasOfMoreBitsThanAreMade(t *testing.T) {
	n := greatest + 8*777
	for _, h := range someHashes() {
		array := laid(asks(h, 16, n), n)
		if !Has(array, 16, h) {
			t.Errorf("Has of %d bits, 16, %d: false", n, h)
		}
		if Has(strings.Repeat("\x00", n/8), 1, h) {
			t.Errorf("Has of %d bits that are off, 1, %d: true", n, h)
		}
	}
}

// P14.3

func TestWhatWasMadeIsThere(t *testing.T) {
	r := rand.New(rand.NewSource(143))
	for range 300 {
		hashes, probes, n := append(someHashes(), drawn(r, r.Intn(200))...), r.Intn(70)-2, 8*r.Intn(1000)
		array := Make(hashes, probes, n)
		for _, h := range hashes {
			if !Has(array, probes, h) || !Has(array, r.Intn(probes+3)-2, h) {
				t.Fatalf("of %d bits, by %d probes, %d was made, and is not there", n, probes, h)
			}
		}
	}
}

func TestMoreHashesTurnNothingOff(t *testing.T) {
	r := rand.New(rand.NewSource(144))
	for range 200 {
		hashes, probes, n := drawn(r, 30), r.Intn(10), 8*(1+r.Intn(60))
		was := Make(nil, probes, n)
		for i := range hashes {
			now := Make(hashes[:i+1], probes, n)
			for b := range n {
				if isSet(was, b) && !isSet(now, b) {
					t.Fatalf("the bit %d is off with one hash more: of %v, %d, %d", b, hashes[:i+1], probes, n)
				}
			}
			was = now
		}
	}
}

func TestOneWithAProbeOfItsOwn(t *testing.T) {
	r := rand.New(rand.NewSource(145))
	told := [2]int{}
	for range 400 {
		hashes, probes, n := drawn(r, 1+r.Intn(30)), 1+r.Intn(8), 8*(1+r.Intn(60))
		for i, h := range hashes {
			others := slices.Delete(slices.Clone(hashes), i, i+1)
			var theirs []int
			for _, other := range others {
				theirs = append(theirs, asks(other, probes, n)...)
			}
			own := slices.ContainsFunc(asks(h, probes, n), func(b int) bool { return !slices.Contains(theirs, b) })
			if ok := Has(Make(others, probes, n), probes, h); ok == own {
				t.Fatalf("of %v without %d, %d, %d: Has is %v", hashes, h, probes, n, ok)
			}
			if own {
				told[1]++
			} else {
				told[0]++
			}
		}
	}
	if told[0] < 100 || told[1] < 100 {
		t.Errorf("so many have no probe of their own, and one: %v", told)
	}
}

package hashes

import (
	"hash/fnv"
	"math"
	"math/big"
	"math/rand"
	"strings"
	"testing"
)

// offset is the state ahead of the first byte, put against no seed.
const offset = 14695981039346656037

// seeds are edges, single bits, and some of no pattern; none is 0, no two are one.
func seeds() []uint64 {
	l := []uint64{3, 5, 6, 7, 9, 10, 255, 257, 1<<32 - 1, offset, 1099511628211, 11400714819323198485, math.MaxUint64 - 1, math.MaxUint64}
	for i := range 64 {
		l = append(l, 1<<i)
	}
	r := rand.New(rand.NewSource(3))
	for range 100 {
		l = append(l, r.Uint64())
	}
	return l
}

// names are short and long ones, of bytes of all kinds, also such that are no UTF-8.
func names() []string {
	l := []string{"", "a", "b", "ab", "ba", "\x00", "\x00\x00", "\x00a", "a\x00", "\x80", "\xff", "\xff\xfe\x00z", "ä€", "annalist", strings.Repeat("x", 32), strings.Repeat("x", 33), strings.Repeat("y", 5000)}
	r := rand.New(rand.NewSource(4))
	for n := range 40 {
		b := make([]byte, n)
		r.Read(b)
		l = append(l, string(b))
	}
	return l
}

// big64 is a number without a sign, to be reckoned with as one that has no end.
func big64(n uint64) *big.Int { return new(big.Int).SetUint64(n) }

// told is a name's hash as the chapter tells it, in numbers that have no end, and modulo 2^64 by hand.
func told(seed uint64, name string) uint64 {
	if seed == 0 {
		return 7
	}
	modulus := new(big.Int).Lsh(big.NewInt(1), 64)
	take := func(s *big.Int, n uint64) { s.Mod(s.Mul(s, big64(n)), modulus) }
	down := func(s *big.Int, n uint) { s.Xor(s, new(big.Int).Rsh(s, n)) }
	s := new(big.Int).Xor(big64(offset), big64(seed))
	for _, b := range []byte(name) {
		s.Xor(s, big64(uint64(b)))
		take(s, 1099511628211)
	}
	down(s, 32)
	take(s, 11400714819323198485)
	down(s, 29)
	return s.Uint64()
}

// P3.1

func TestHash(t *testing.T) {
	for _, c := range []struct {
		seed uint64
		name string
		want uint64
	}{
		{offset, "", 0},
		{offset, "\x00", 0},
		{offset, "\x00\x00\x00", 0},
		{offset, "\x01", 0xeb4631b35b254f0f},
		{offset, "\x00\x01", 0xeb4631b35b254f0f},
		{offset, "\x01\x00", 0xc488bb27b53c1151},
		{1, "", 0xe739689c6f4bfe1a},
		{1, "a", 0xdceb4248056dfe18},
		{1, "b", 0x12b48da80db671d2},
		{1, "ab", 0xe5965c699b46e575},
		{1, "ba", 0x81a8a9304a5e6c44},
		{1, "\x80", 0x82589e1d5189b1aa},
		{1, "\xff", 0xe3193b54e060106e},
		{2, "a", 0x12b48da80db671d2},
		{1 << 63, "a", 0xc256dba0de9c22f6},
		{math.MaxUint64, "", 0x9c8bc8d33195706b},
		{math.MaxUint64, "a", 0xe2b55e0f77478019},
		{5, "ä€", 0xcffcd744e7feaaa2},
		{5, "\xff\xfe\x00z", 0x8d56447c689f601},
		{7, "annalist", 0x2080afe6ec27e484},
		{12345678901234567890, strings.Repeat("x", 32), 0x637a44fd505f58ca},
		{12345678901234567890, strings.Repeat("x", 33), 0x766d842ce0fc353b},
		{3, strings.Repeat("y", 5000), 0x55cb22d99c7bc58f},
	} {
		if h := Hash(c.seed, c.name); h != c.want {
			t.Errorf("Hash(%d, %.40q): %x, not %x", c.seed, c.name, h, c.want)
		}
	}
}

func TestHashAsTold(t *testing.T) {
	for _, name := range names() {
		for _, seed := range seeds() {
			if h, want := Hash(seed, name), told(seed, name); h != want {
				t.Fatalf("Hash(%d, %.40q): %x, not %x", seed, name, h, want)
			}
		}
	}
}

// A seed of one byte goes in as the first byte does: so the state behind the bytes is FNV-1a's of the standard library, and only the mixing is left to be told here.
func TestHashIsFNVMixed(t *testing.T) {
	for _, name := range names() {
		if name == "" {
			continue
		}
		for seed := 1; seed < 256; seed++ {
			b := []byte(name)
			b[0] ^= byte(seed)
			f := fnv.New64a()
			f.Write(b)
			want := f.Sum64()
			want ^= want >> 32
			want *= 11400714819323198485
			want ^= want >> 29
			if h := Hash(uint64(seed), name); h != want {
				t.Fatalf("Hash(%d, %.40q): %x, not %x", seed, name, h, want)
			}
		}
	}
}

// P3.2

func TestStep(t *testing.T) {
	for _, c := range []struct{ h, want uint64 }{
		{0, 1},
		{1, 1<<47 + 1},
		{2, 1<<48 + 1},
		{7, 7<<47 + 1},
		{1 << 16, 1<<63 + 1},
		{1 << 17, 1},
		{1 << 18, 3},
		{1 << 19, 5},
		{1 << 63, 1<<46 + 1},
		{math.MaxUint64, math.MaxUint64},
		{math.MaxUint64 - 1, math.MaxUint64 - 1<<47},
		{math.MaxUint64 - 1<<17, math.MaxUint64},
		{0x0102030405060708, 0x0384008101820283},
		{0x9e3779b97f4a7c15, 0x3e0acf1bbcdcbfa5},
	} {
		if s := Step(c.h); s != c.want {
			t.Errorf("Step(%x): %x, not %x", c.h, s, c.want)
		}
	}
}

func TestStepOfEachBit(t *testing.T) {
	for i := range 64 {
		want := uint64(1)<<((i+64-17)%64) | 1
		if s := Step(1 << i); s != want {
			t.Errorf("Step of the bit %d: %x, not %x", i, s, want)
		}
		for j := range 64 {
			both := want | uint64(1)<<((j+64-17)%64)
			if s := Step(1<<i | 1<<j); s != both {
				t.Errorf("Step of the bits %d and %d: %x, not %x", i, j, s, both)
			}
		}
	}
}

// P3.3

func TestNamesThatDifferInOneByte(t *testing.T) {
	for _, name := range names() {
		for _, seed := range []uint64{1, 2, 255, 1 << 63, offset, math.MaxUint64} {
			for at := range min(len(name), 40) {
				seen := map[uint64]byte{}
				for b := range 256 {
					h := Hash(seed, name[:at]+string([]byte{byte(b)})+name[at+1:])
					if other, ok := seen[h]; ok {
						t.Fatalf("by the seed %d, of %.40q with the byte %d: %d and %d have one hash", seed, name, at, other, b)
					}
					seen[h] = byte(b)
				}
			}
		}
	}
}

func TestSeedsOfOneName(t *testing.T) {
	for _, name := range names() {
		seen := map[uint64]uint64{}
		for _, seed := range seeds() {
			h := Hash(seed, name)
			if other, ok := seen[h]; ok {
				t.Fatalf("of %.40q: the seeds %d and %d have one hash", name, other, seed)
			}
			seen[h] = seed
		}
	}
}

func TestSeedOfNought(t *testing.T) {
	for _, name := range append(names(), strings.Repeat("z", 1<<20)) {
		if h := Hash(0, name); h != 7 {
			t.Errorf("Hash(0, %.40q): %d", name, h)
		}
	}
}

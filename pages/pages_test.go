package pages

import (
	"encoding/binary"
	"hash/crc32"
	"math"
	"math/big"
	"math/bits"
	"math/rand"
	"strings"
	"testing"

	"annalist/blooms"
)

// The numbers as the chapter names them.
const (
	data     = 60     // bytes of bits of a page
	paged    = 64     // bytes of a page
	greatest = 120000 // bytes of bits
	probing  = 16     // probes
)

// steady is a hash without a pattern.
const steady = 0x9e3779b97f4a7c15

// someHashes are edges, single bits, some one behind the other, and some of no pattern.
func someHashes() []uint64 {
	l := []uint64{0, 1, 7, 8, 479, 480, 481, 959, 960, 1<<17 - 1, 1<<17 + 1, 1<<32 - 1, steady, math.MaxUint64 - 1, math.MaxUint64}
	for i := range 64 {
		l = append(l, 1<<i)
	}
	r := rand.New(rand.NewSource(15))
	for range 40 {
		l = append(l, r.Uint64())
	}
	return l
}

// noise is so many bytes of no pattern.
func noise(r *rand.Rand, n int) string {
	b := make([]byte, n)
	for i := range b {
		b[i] = byte(r.Intn(256))
	}
	return string(b)
}

// rich is so many bytes of which most bits are set, so that some hashes are there and some are not.
func rich(r *rand.Rand, n int) string {
	b := make([]byte, n)
	for i := range b {
		b[i] = 0xff
		if r.Intn(4) == 0 {
			b[i] &^= 1 << r.Intn(8)
		}
	}
	return string(b)
}

// sealed is a text with its sum behind it, by the library.
func sealed(s string) string {
	return string(binary.LittleEndian.AppendUint32([]byte(s), crc32.ChecksumIEEE([]byte(s))))
}

// headed is a head page, of any numbers.
func headed(letters string, probes byte, n uint32) string {
	s := string(binary.BigEndian.AppendUint32(append([]byte(letters), probes), n))
	return sealed(s + strings.Repeat("\x00", data-len(s)))
}

// laid is a file of some bytes and probes that may be.
func laid(array string, probes int) string {
	s := headed("blm", byte(probes), uint32(len(array)))
	for ; array != ""; array = array[data:] {
		s += sealed(array[:data])
	}
	return s
}

// probed is a probe as it is told in layer 14, in numbers that have no end, and modulo 2^64 by hand.
func probed(h uint64, i, n int) int {
	step := bits.RotateLeft64(h, 64-17) | 1
	p := new(big.Int).Mul(big.NewInt(int64(i)), new(big.Int).SetUint64(step))
	p.Add(p, new(big.Int).SetUint64(h))
	p.Mod(p, new(big.Int).Lsh(big.NewInt(1), 64))
	return int(p.Mod(p, big.NewInt(int64(n))).Int64())
}

// headOf is what the head page of a file says; false, if it is none that could have been put: all that could are tried, with the probes and the bytes that stand there.
func headOf(file string) (probes, n int, ok bool) {
	if len(file) < paged {
		return 0, 0, false
	}
	probes, n = int(file[3]), int(binary.BigEndian.Uint32([]byte(file[4:8])))
	if probes < 1 || probes > probing || n < 1 || n > greatest || n%data != 0 {
		return 0, 0, false
	}
	return probes, n, file[:paged] == headed("blm", byte(probes), uint32(n))
}

// isWhole tells whether a page of bits is all there, and sealed.
func isWhole(file string, n int) bool {
	at := paged * (n + 1)
	return at+paged <= len(file) && sealed(file[at:at+data]) == file[at:at+paged]
}

// maybe is what is to be told of a file's hash, from the chapter's words.
func maybe(file string, h uint64) bool {
	probes, n, ok := headOf(file)
	if !ok {
		return true
	}
	for i := range probes {
		bit := probed(h, i, 8*n)
		page := bit / 8 / data
		if !isWhole(file, page) {
			continue
		}
		value := file[paged*(page+1)+bit/8%data]
		for range bit % 8 {
			value /= 2
		}
		if value%2 == 0 {
			return false
		}
	}
	return true
}

// other is a text with another byte at a place.
func other(s string, at int, b byte) string { return s[:at] + string([]byte{b}) + s[at+1:] }

// hold holds what is told of a file against the chapter's words.
func hold(t *testing.T, what, file string, hashes []uint64) {
	t.Helper()
	f := Load(file)
	for _, h := range hashes {
		if ok, want := May(f, h), maybe(file, h); ok != want {
			t.Fatalf("%s: May of %d: %v, not %v", what, h, ok, want)
		}
	}
}

// allMay holds that a file keeps nothing out.
func allMay(t *testing.T, what, file string) {
	t.Helper()
	f := Load(file)
	for _, h := range someHashes() {
		if !May(f, h) {
			t.Fatalf("%s: May of %d: false", what, h)
		}
	}
}

// P15.1

func TestPut(t *testing.T) {
	full, empty := strings.Repeat("\xff", data), strings.Repeat("\x00", data)
	want := "blm\x01\x00\x00\x00\x78" + strings.Repeat("\x00", 52) + "\x8c\xee\xf4\x59" + full + "\x4d\xf1\x8c\xf4" + empty + "\x08\x89\x12\x04"
	if s := Put(full+empty, 1); s != want {
		t.Errorf("%x, not %x", s, want)
	}
	if s := Put(full+empty, 16); s[:8] != "blm\x10\x00\x00\x00\x78" || s[64:] != want[64:] {
		t.Errorf("%x, with 16 probes", s)
	}
	if s := Put(strings.Repeat(empty, 2000), 16); s[:8] != "blm\x10\x00\x01\xd4\xc0" || s[60:64] != "\x10\x76\x2a\x57" || len(s) != 128064 {
		t.Errorf("%x at the front of %d bytes", s[:64], len(s))
	}
}

func TestPutOfAllNumbersOfBytes(t *testing.T) {
	r := rand.New(rand.NewSource(151))
	array := noise(r, greatest+3*data)
	for n := range 1300 {
		want := ""
		if n > 0 && n%data == 0 {
			want = laid(array[:n], 4)
		}
		if s := Put(array[:n], 4); s != want {
			t.Fatalf("%d bytes: %x, not %x", n, s, want)
		}
	}
	for n := greatest - 2*data - 1; n <= greatest+3*data; n++ {
		s := Put(array[:n], 16)
		switch {
		case n <= greatest && n%data == 0:
			if s != laid(array[:n], 16) {
				t.Fatalf("%d bytes: not those that were to be", n)
			}
		case s != "":
			t.Fatalf("%d bytes: %d", n, len(s))
		}
	}
	if s := Put(strings.Repeat(array[:data], 1<<16), 1); s != "" {
		t.Errorf("of many bytes: %d", len(s))
	}
}

func TestPutOfAllProbes(t *testing.T) {
	array := rich(rand.New(rand.NewSource(152)), 3*data)
	for probes := -300; probes <= 600; probes++ {
		want := ""
		if probes >= 1 && probes <= probing {
			want = laid(array, probes)
		}
		if s := Put(array, probes); s != want {
			t.Fatalf("%d probes: %x, not %x", probes, s, want)
		}
		if s := Put("", probes); s != "" {
			t.Fatalf("no bytes, %d probes: %x", probes, s)
		}
		if s := Put(array[1:], probes); s != "" {
			t.Fatalf("179 bytes, %d probes: %x", probes, s)
		}
	}
	for _, probes := range []int{math.MinInt, math.MinInt + 1, -1 << 32, 1 << 16, 1<<32 + 1, 1 << 62, math.MaxInt - 1, math.MaxInt} {
		if s := Put(array, probes); s != "" {
			t.Errorf("%d probes: %x", probes, s)
		}
	}
}

// P15.2

func TestMay(t *testing.T) {
	file := Put(strings.Repeat("\xff", data)+strings.Repeat("\x00", data), 1)
	for _, c := range []struct {
		what        string
		file        string
		first, last bool
	}{
		{"as it is", file, true, false},
		{"its last byte another one", other(file, len(file)-1, file[len(file)-1]^1), true, true},
		{"without its last byte", file[:len(file)-1], true, true},
		{"nothing", "", true, true},
		{"its first byte another one", other(file, 0, 'B'), true, true},
		{"one more behind", file + "x", true, false},
		{"twice", file + file, true, false},
		{"its pages turned about", file[:64] + file[128:] + file[64:128], false, true},
		{"its second page alone", file[:64] + file[128:], false, true},
		{"its head page alone", file[:64], true, true},
		{"its head page cut off", file[:63], true, true},
		{"its first page cut off", file[:127], true, true},
		{"its first page alone", file[:128], true, true},
		{"its first page another one", other(file, 64, 0), true, false},
		{"its first page another one that is sealed", file[:64] + sealed("\x00"+file[65:124]) + file[128:], false, false},
		{"its second page another one that is sealed", file[:128] + sealed("\x01"+file[129:188]), true, true},
	} {
		f := Load(c.file)
		for range 2 {
			if May(f, 0) != c.first || May(f, 480) != c.last {
				t.Errorf("%s: May of 0: %v, of 480: %v", c.what, May(f, 0), May(f, 480))
			}
		}
	}
}

func TestMayOfAFilterThatLoadDidNotMake(t *testing.T) {
	var f Filter
	for _, h := range someHashes() {
		if !May(f, h) || !May(Filter{}, h) {
			t.Fatalf("May of %d: false", h)
		}
	}
}

func TestMayOfEachBit(t *testing.T) {
	// With one probe a hash below the number of bits asks the bit that it tells.
	r := rand.New(rand.NewSource(153))
	array := noise(r, 5*data)
	f := Load(Put(array, 1))
	for bit := range 8 * len(array) {
		if ok, want := May(f, uint64(bit)), array[bit/8]&(1<<(bit%8)) != 0; ok != want {
			t.Fatalf("May of %d: %v", bit, ok)
		}
	}
}

func TestMayOfAllProbesAndSomeNumbersOfPages(t *testing.T) {
	r := rand.New(rand.NewSource(154))
	for _, n := range []int{1, 2, 3, 7, 8, 100} {
		array := rich(r, n*data)
		for probes := 1; probes <= probing; probes++ {
			hold(t, "as it is", laid(array, probes), someHashes())
		}
	}
	array := rich(r, greatest)
	file := laid(array, probing)
	hold(t, "with all pages", file, someHashes())
	hold(t, "with all pages but one", file[:len(file)-1], someHashes())
}

func TestMayOfFilesThatAreCutOff(t *testing.T) {
	file := laid(rich(rand.New(rand.NewSource(155)), 4*data), 3)
	for n := range len(file) {
		hold(t, "cut off", file[:n], someHashes())
		if n < 2*paged {
			allMay(t, "cut off", file[:n])
		}
	}
}

func TestMayOfFilesWithMoreBehind(t *testing.T) {
	r := rand.New(rand.NewSource(156))
	array := rich(r, 3*data)
	file := laid(array, 2)
	f := Load(file)
	behind := []string{"x", file, sealed(strings.Repeat("\x00", data)), sealed(strings.Repeat("\xff", data)), noise(r, 700)}
	for _, s := range behind {
		g := Load(file + s)
		for _, h := range someHashes() {
			if May(f, h) != May(g, h) {
				t.Fatalf("May of %d: %v, not %v, with %d bytes behind", h, May(g, h), May(f, h), len(s))
			}
		}
	}
	// A page that is missing is not made up for by what stands behind, if that is moved up and not sealed.
	hold(t, "cut and more", file[:3*paged-1]+noise(r, 700), someHashes())
}

func TestMayOfEachByteOfTheHeadAnotherOne(t *testing.T) {
	file := laid(strings.Repeat("\x00", 2*data), 1)
	if May(Load(file), 0) {
		t.Fatal("May of 0, as it is")
	}
	for at := range paged {
		for b := range 256 {
			if byte(b) != file[at] {
				allMay(t, "another byte", other(file, at, byte(b)))
			}
		}
	}
}

func TestMayOfHeadsThatCouldNotHaveBeenPut(t *testing.T) {
	empty := strings.Repeat(sealed(strings.Repeat("\x00", data)), 3)
	for probes := range 256 {
		file := headed("blm", byte(probes), 120) + empty
		if probes < 1 || probes > probing {
			allMay(t, "such probes", file)
		} else if May(Load(file), 5) {
			t.Errorf("%d probes: May of 5", probes)
		}
	}
	numbers := []uint32{1 << 16, 1 << 17, 1 << 24, 1 << 31, 1<<31 - 8, math.MaxUint32 - 15, math.MaxUint32 - 1, math.MaxUint32, math.MaxUint32 / 60 * 60, greatest - 1, greatest + 1, greatest + data, greatest + 2*data, 2 * greatest}
	for n := range uint32(400) {
		numbers = append(numbers, n)
	}
	for _, n := range numbers {
		file := headed("blm", 1, n) + empty
		if n == 0 || n > greatest || n%data != 0 {
			allMay(t, "such a number of bytes", file)
		} else if May(Load(file), 5) {
			t.Errorf("%d bytes: May of 5", n)
		}
	}
	// Bytes that are not 0 behind what a head says, and letters that are none, with a sum that is right.
	head := headed("blm", 1, 120)[:data]
	for at := range data {
		if at >= 3 && at < 8 {
			continue
		}
		for _, b := range []byte{head[at] ^ 1, head[at] ^ 0x20, head[at] ^ 0x80, head[at] ^ 0xff} {
			allMay(t, "a head that is sealed", sealed(other(head, at, b))+empty)
		}
	}
	for _, letters := range []string{"BLM", "bl\x00", "mlb", "\x00\x00\x00"} {
		allMay(t, letters, headed(letters, 1, 120)+empty)
	}
}

func TestMayOfHeadsWithoutTheirPages(t *testing.T) {
	// The most bytes that a head may say, of which no page, one, or one less than all is there.
	page := sealed(strings.Repeat("\x00", data))
	head := headed("blm", 2, greatest)
	allMay(t, "no page", head)
	for _, n := range []int{1, 1000, 1999, 2000, 2001} {
		hold(t, "some pages", head+strings.Repeat(page, n), someHashes())
	}
}

func TestMayOfEachByteOfAPageAnotherOne(t *testing.T) {
	array := rich(rand.New(rand.NewSource(157)), 3*data)
	file := laid(array, 2)
	hashes := someHashes()[:30]
	for at := paged; at < len(file); at++ {
		for _, turn := range []byte{1, 2, 0x10, 0x80, 0xff} {
			spoilt := other(file, at, file[at]^turn)
			hold(t, "another byte", spoilt, hashes)
			// Another page stays as it was, and the one that is spoilt keeps nothing out.
			page := at/paged - 1
			f := Load(spoilt)
			g := Load(laid(array[:page*data]+strings.Repeat("\xff", data)+array[(page+1)*data:], 2))
			for _, h := range hashes {
				if May(f, h) != May(g, h) {
					t.Fatalf("byte %d: May of %d: %v", at, h, May(f, h))
				}
			}
		}
	}
}

func TestMayOfPagesThatAreSealedAnew(t *testing.T) {
	// A page that is sealed is believed, whatever it says: by its own place, not by what stood there.
	r := rand.New(rand.NewSource(158))
	array := rich(r, 4*data)
	for page := range 4 {
		for _, in := range []string{strings.Repeat("\x00", data), strings.Repeat("\xff", data), noise(r, data), array[:data]} {
			now := array[:page*data] + in + array[(page+1)*data:]
			file := laid(array, 3)
			f := Load(file[:paged*(page+1)] + sealed(in) + file[paged*(page+2):])
			for _, h := range someHashes() {
				if ok, want := May(f, h), blooms.Has(now, 3, h); ok != want {
					t.Fatalf("page %d: May of %d: %v", page, h, ok)
				}
			}
		}
	}
}

func TestMayOfNoise(t *testing.T) {
	r := rand.New(rand.NewSource(159))
	for range 3000 {
		file := laid(rich(r, data*(1+r.Intn(6))), 1+r.Intn(probing))
		for range r.Intn(6) {
			at := r.Intn(len(file))
			s := noise(r, 1+r.Intn(90))
			file = file[:at] + s + file[min(len(file), at+len(s)):]
		}
		if r.Intn(3) == 0 {
			file = file[:r.Intn(len(file)+1)]
		}
		hold(t, "spoilt", file, someHashes()[:25])
		if r.Intn(10) == 0 {
			hold(t, "noise", noise(r, r.Intn(400)), someHashes()[:10])
			hold(t, "noise with a head", headed("blm", byte(r.Intn(20)), uint32(60*r.Intn(5)))+noise(r, r.Intn(400)), someHashes()[:10])
		}
	}
}

func TestMayOfFiltersThatAreLoadedTogether(t *testing.T) {
	// A filter is no other one's, and a copy of it says the same.
	full, empty := Put(strings.Repeat("\xff", data), 3), Put(strings.Repeat("\x00", data), 3)
	a, b := Load(full), Load(empty)
	c, none := a, Load("")
	a = b
	for _, h := range someHashes() {
		if May(a, h) || May(b, h) || !May(c, h) || !May(none, h) {
			t.Fatalf("May of %d: %v, %v, %v, %v", h, May(a, h), May(b, h), May(c, h), May(none, h))
		}
	}
}

func TestMayManyAtOnce(t *testing.T) {
	// A filter that is asked stays as it was.
	f := Load(laid(rich(rand.New(rand.NewSource(1510)), 3*data), 3))
	var first []bool
	for _, h := range someHashes() {
		first = append(first, May(f, h))
	}
	for range 3 {
		for i, h := range someHashes() {
			if May(f, h) != first[i] {
				t.Fatalf("May of %d: another answer", h)
			}
		}
	}
}

// P15.3

func TestMaySaysWhatHasSays(t *testing.T) {
	r := rand.New(rand.NewSource(1511))
	for range 1500 {
		array, probes := rich(r, data*(1+r.Intn(8))), 1+r.Intn(probing)
		f := Load(Put(array, probes))
		for range 20 {
			h := r.Uint64() >> r.Intn(64)
			if ok, want := May(f, h), blooms.Has(array, probes, h); ok != want {
				t.Fatalf("%d bytes, %d probes: May of %d: %v", len(array), probes, h, ok)
			}
		}
	}
	array := rich(r, greatest)
	f := Load(Put(array, probing))
	for _, h := range someHashes() {
		if May(f, h) != blooms.Has(array, probing, h) {
			t.Fatalf("May of %d: %v", h, May(f, h))
		}
	}
}

func TestWhatWasThereMayBeThere(t *testing.T) {
	r := rand.New(rand.NewSource(1512))
	kept := 0
	for range 1500 {
		var hashes []uint64
		for range 1 + r.Intn(60) {
			hashes = append(hashes, r.Uint64())
		}
		probes, pages := 1+r.Intn(probing), 1+r.Intn(5)
		file := Put(blooms.Make(hashes, probes, 8*data*pages), probes)
		b := []byte(file)
		for range r.Intn(4) {
			// Up to four bytes within a page: no sum stays right.
			at := paged*r.Intn(pages+1) + r.Intn(paged-3)
			for i := range 1 + r.Intn(4) {
				b[at+i] ^= byte(r.Intn(256))
			}
		}
		f := Load(string(b[:len(b)-r.Intn(2)*r.Intn(len(b)+1)]))
		for _, h := range hashes {
			if !May(f, h) {
				t.Fatalf("%d probes, %d pages: what was there is kept out: %d", probes, pages, h)
			}
		}
		for range 10 {
			if !May(f, r.Uint64()) {
				kept++
			}
		}
	}
	if kept < 1000 {
		t.Errorf("%d hashes that were not there were kept out", kept)
	}
}

func TestHeadsOfOthersKeepNothingOut(t *testing.T) {
	// Where the head is none the pages' own bytes make no difference.
	r := rand.New(rand.NewSource(1513))
	for range 300 {
		file := laid(strings.Repeat("\x00", 2*data), 1+r.Intn(probing))
		at := r.Intn(paged)
		allMay(t, "another head", other(file, at, file[at]^byte(1+r.Intn(255))))
	}
}

package chunks

import (
	"encoding/binary"
	"hash/crc32"
	"math"
	"math/rand"
	"slices"
	"strconv"
	"strings"
	"testing"

	"annalist/api"
	"annalist/records"
)

// x is a text of n bytes.
func x(n int) string { return strings.Repeat("x", n) }

// noise is n bytes of no pattern.
func noise(r *rand.Rand, n int) string {
	b := make([]byte, n)
	r.Read(b)
	return string(b)
}

// laid is the bytes of a payload's record, put by the library, however long the payload is.
func laid(payload string) string {
	b := binary.BigEndian.AppendUint32(nil, uint32(len(payload)))
	b = append(b, payload...)
	b = binary.LittleEndian.AppendUint32(b, crc32.ChecksumIEEE(b))
	return string(binary.BigEndian.AppendUint32(b, uint32(len(payload))))
}

// headed is the bytes that the chapter asks for as a head, put by the library, whatever the letters and the number are.
func headed(letters string, n uint32) string {
	b := binary.BigEndian.AppendUint32([]byte(letters), n)
	return string(binary.LittleEndian.AppendUint32(b, crc32.ChecksumIEEE(b)))
}

// head is the head of the chunk n, by the library.
func head(n int) string { return headed("chnk", uint32(n)) }

// short is what a failure tells of a text.
func short(s string) string {
	if len(s) <= 40 {
		return strconv.Quote(s)
	}
	return strconv.Quote(s[:40]) + " of " + strconv.Itoa(len(s)) + " bytes"
}

// someChunks are numbers of chunks, at the edges and between.
func someChunks() []int { return []int{0, 1, 2, 3, 4, 7, 99, 100, 127, 128, 198, 199} }

// noChunks are numbers that no chunk has, among them those whose lowest bits would be some.
func noChunks() []int {
	l := []int{math.MinInt, math.MinInt + 1, math.MinInt32, -4096, -200, -199, -3, -2, -1, 200, 201, 255, 256, 259, 300, 511, 512, 1000, 4096, 65536, 65539, 1 << 24, 1<<32 - 1, 1 << 32, 1<<32 + 3, math.MaxInt32, math.MaxInt - 1, math.MaxInt}
	for n := math.MaxInt; n >= 200; n /= 2 {
		l = append(l, n, -n)
	}
	return l
}

// payloads are of some lengths, of bytes of all kinds, and some that have records or heads within.
func payloads() []string {
	return []string{"", "a", "ab", "\x00", "\x00\x00\x00\x02ab", strings.Repeat("\xff", 20), laid("ab"), laid("ab") + laid(""), head(3), head(3) + laid("ab"), "chnk", x(255), x(256), "ä€", x(600), strings.Repeat("\x00", 40), "e"}
}

// joined is a head, and behind it the records of some payloads, and their places, with that behind the last one.
func joined(n int, l []string) (s string, places []int) {
	var b strings.Builder
	b.WriteString(head(n))
	places = []int{12}
	for _, p := range l {
		b.WriteString(laid(p))
		places = append(places, b.Len())
	}
	return b.String(), places
}

// scans holds what Scan tells against what is asked for.
func scans(t *testing.T, s string, n int, at []int, end int) {
	t.Helper()
	l, m, ok := Scan(s, n)
	if !slices.Equal(l, at) || m != end || !ok {
		t.Errorf("Scan(%s, %d): %v, %d, %v, not %v, %d", short(s), n, l, m, ok, at, end)
	}
}

// scansNone asks for false, and nothing beside it.
func scansNone(t *testing.T, s string, n int) {
	t.Helper()
	if at, end, ok := Scan(s, n); len(at) != 0 || end != 0 || ok {
		t.Errorf("Scan(%s, %d): %v, %d, %v", short(s), n, at, end, ok)
	}
}

// found is where records stand one behind the other, for which all lengths are tried at each place, and where they end.
func found(s string, from int) (at []int, end int) {
trying:
	for {
		for n := range min(2000, len(s)-from-12) + 1 {
			if s[from:from+n+12] == laid(s[from+4:from+4+n]) {
				at, from = append(at, from), from+n+12
				continue trying
			}
		}
		return at, from
	}
}

// scansAsFound holds what Scan tells against the chapter's words, case by case.
func scansAsFound(t *testing.T, s string, n int) {
	t.Helper()
	switch h := head(n); {
	case n < 0 || n > 199:
		scansNone(t, s, n)
	case len(s) >= 12 && s[:12] == h:
		at, end := found(s, 12)
		scans(t, s, n, at, end)
	case len(s) < 12 && s == h[:len(s)]:
		scans(t, s, n, nil, 0)
	default:
		scansNone(t, s, n)
	}
}

// P11.1

func TestHead(t *testing.T) {
	for _, c := range []struct {
		n    int
		want string
	}{
		{0, "chnk\x00\x00\x00\x00\xc5\x52\x03\x5f"},
		{3, "chnk\x00\x00\x00\x03\x7f\x03\x0a\xc6"},
		{199, "chnk\x00\x00\x00\xc7\xd6\x05\x03\x5a"},
	} {
		if s := Head(c.n); s != c.want {
			t.Errorf("Head(%d): %q, not %q", c.n, s, c.want)
		}
	}
}

func TestHeadOfEachNumber(t *testing.T) {
	for n := range 200 {
		if s := Head(n); s != head(n) || len(s) != 12 {
			t.Errorf("Head(%d): %q, not %q", n, s, head(n))
		}
	}
}

func TestHeadOfNoChunk(t *testing.T) {
	for _, n := range noChunks() {
		if s := Head(n); s != "" {
			t.Errorf("Head(%d): %q", n, s)
		}
	}
}

// P11.2

func TestScan(t *testing.T) {
	h, s := head(3), laid("ab")
	scans(t, h+s, 3, []int{12}, 26)
	scans(t, (h + s)[:25], 3, nil, 12)
	scansNone(t, h, 4)
	scans(t, "chn", 3, nil, 0)
	scansNone(t, "chx", 3)
	scans(t, "", 3, nil, 0)
	scans(t, h, 3, nil, 12)
	scans(t, h[:11], 3, nil, 0)
	scans(t, h+s+laid("")+laid("c"), 3, []int{12, 26, 38}, 51)
}

func TestScanOfEachNumber(t *testing.T) {
	for n := range 200 {
		s, places := joined(n, []string{"ab", "", "c"})
		scans(t, s, n, places[:3], places[3])
		scans(t, head(n), n, nil, 12)
		scans(t, "", n, nil, 0)
	}
}

// Where there is no such head, no text is a chunk's: not one with the bytes that a head would have there, and not nothing.
func TestScanOfNoChunk(t *testing.T) {
	for _, n := range noChunks() {
		for _, s := range []string{"", "c", "chnk", "x", laid("ab"), x(12), head(n)[:8], head(n), head(n) + laid("ab"), head(0) + laid("ab"), head(3), head(199), head(n & 127)} {
			scansNone(t, s, n)
		}
	}
}

func TestScanOfOtherHeads(t *testing.T) {
	for _, n := range someChunks() {
		h := head(n)
		for _, other := range []string{
			"x", " ", "C", "\x00", "hnk", "chx", "chnk\x01", "chnkx", strings.Repeat("\x00", 12), strings.Repeat("\xff", 12), x(12), x(5000),
			h[1:], " " + h, "x" + h, "\x00" + h, h[:11] + "\x00" + h[11:], h[:4] + h[8:], h[:8] + laid("ab"), h[:8] + "\x00\x00\x00\x00", h[8:] + h[:8],
			headed("CHNK", uint32(n)), headed("chnl", uint32(n)), headed("knhc", uint32(n)), headed("chn", uint32(n)), headed("chunk", uint32(n)), headed("", uint32(n)),
			headed("chnk", uint32(n)+200), headed("chnk", uint32(n)+256), headed("chnk", uint32(n)+1<<31), headed("chnk", uint32(n+1)<<24), laid("ab"), laid(h),
		} {
			scansNone(t, other, n)
			scansNone(t, other+laid("ab"), n)
			scansNone(t, other+h+laid("ab"), n)
		}
	}
}

// The sum of a head is of its letters and its number, its lowest byte first: with any other one it is none.
func TestScanOfOtherSums(t *testing.T) {
	for _, n := range someChunks() {
		h := head(n)
		sum := binary.LittleEndian.Uint32([]byte(h[8:]))
		for _, other := range []uint32{0, ^sum, sum + 1, sum - 1, sum ^ 1<<31, sum << 8, crc32.ChecksumIEEE([]byte("chnk")), crc32.ChecksumIEEE([]byte(h[4:8])), binary.BigEndian.Uint32([]byte(h[8:]))} {
			s := h[:8] + string(binary.LittleEndian.AppendUint32(nil, other))
			scansNone(t, s, n)
			scansNone(t, s+laid("ab"), n)
		}
	}
}

// What does not stand just behind the head, or just behind another record, is not looked for.
func TestScanOfWhatIsFartherOn(t *testing.T) {
	h, s := head(7), laid("ab")
	scans(t, h+"x"+s, 7, nil, 12)
	scans(t, h+s+"x"+s, 7, []int{12}, 26)
	scans(t, h+s+s+"x", 7, []int{12, 26}, 40)
	scans(t, h+s+laid(x(2000))+s, 7, []int{12, 26, 2038}, 2052)
	scans(t, h+s+laid(x(2001))+s, 7, []int{12}, 26)
	scans(t, h+laid(s+s)+s, 7, []int{12, 52}, 66)
	scans(t, h+h+s, 7, nil, 12)
	scans(t, h+s+h+s, 7, []int{12}, 26)
	scans(t, h+strings.Repeat("\x00", 100), 7, nil, 12)
	scans(t, h+strings.Repeat("\xff", 100), 7, nil, 12)
	spoilt := []byte(s)
	spoilt[4] ^= 1
	scans(t, h+s+string(spoilt)+s, 7, []int{12}, 26)
}

// A chunk's bound is asked of what is put there, not of what is found.
func TestScanOfMoreThanAChunk(t *testing.T) {
	var l []string
	for range 20 {
		l = append(l, payloads()...)
	}
	s, places := joined(5, l)
	if len(s) <= 4096 {
		t.Fatalf("%d bytes", len(s))
	}
	scans(t, s, 5, places[:len(l)], places[len(l)])
}

func TestScanOfNoise(t *testing.T) {
	r := rand.New(rand.NewSource(11))
	for range 2000 {
		n := r.Intn(202) - 1
		s := head(n + r.Intn(2)*r.Intn(2)*r.Intn(3))
		for range r.Intn(4) {
			s += laid(noise(r, r.Intn(6)))
		}
		b := []byte(s)
		for range r.Intn(3) * r.Intn(2) {
			b[r.Intn(len(b))] ^= 1 << r.Intn(8)
		}
		scansAsFound(t, string(b[:len(b)-r.Intn(2)*r.Intn(len(b)+1)]), n)
		scansAsFound(t, noise(r, r.Intn(20)), n)
	}
}

func TestListsAreTheCallers(t *testing.T) {
	s, places := joined(3, []string{"ab", "c"})
	l, _, _ := Scan(s, 3)
	l[0], l[1] = 7, 8
	scans(t, s, 3, places[:2], places[2])
}

// P11.3

// fits holds what Fits tells against what is asked for.
func fits(t *testing.T, size int, payload string, want bool) {
	t.Helper()
	if ok := Fits(size, payload); ok != want {
		t.Errorf("Fits(%d, %d bytes): %v", size, len(payload), ok)
	}
}

func TestFits(t *testing.T) {
	fits(t, 4084, "", true)
	fits(t, 4085, "", false)
	fits(t, 0, x(2001), false)
	fits(t, 0, x(2000), true)
	fits(t, 0, "", true)
	fits(t, 12, "", true)
	fits(t, 2084, x(2000), true)
	fits(t, 2085, x(2000), false)
	fits(t, 4083, "a", true)
	fits(t, 4084, "a", false)
	fits(t, 4095, "", false)
	fits(t, 4096, "", false)
}

func TestFitsOfEachSize(t *testing.T) {
	all := x(2001)
	for size := range 4200 {
		for _, n := range []int{0, 1, 2, 11, 12, 13, 255, 256, 1000, 1999, 2000, 2001} {
			fits(t, size, all[:n], n <= 2000 && size+n+12 <= 4096)
		}
	}
}

// Of each payload the record that records puts finds room up to the chunk's last byte, and no byte farther.
func TestFitsOfEachLength(t *testing.T) {
	all := x(2000)
	for n := range 2001 {
		record, e := records.Put(all[:n])
		if e != api.OK {
			t.Fatalf("records.Put of %d bytes: %v", n, e)
		}
		fits(t, api.ChunkBytes-len(record), all[:n], true)
		fits(t, api.ChunkBytes-len(record)+1, all[:n], false)
	}
}

func TestFitsOfNoSize(t *testing.T) {
	for _, size := range []int{math.MinInt, math.MinInt + 1, math.MinInt + 12, math.MinInt + 2012, math.MinInt32, -1 << 32, -4096, -2012, -13, -12, -11, -2, -1, 4097, 4108, 8192, 65536, 1 << 32, 1<<32 + 12, math.MaxInt32, math.MaxInt - 2012, math.MaxInt - 2011, math.MaxInt - 12, math.MaxInt - 11, math.MaxInt - 1, math.MaxInt} {
		for _, n := range []int{0, 1, 12, 1999, 2000, 2001, 5000} {
			fits(t, size, x(n), false)
		}
	}
}

func TestFitsOfTooLong(t *testing.T) {
	for _, n := range []int{2001, 2002, 2012, 4083, 4084, 4085, 4096, 65535, 65536, 65538, 67536, 1 << 20} {
		for _, size := range []int{-n, -1, 0, 1, 12, 2083, 2084, 4084, 4096} {
			fits(t, size, x(n), false)
		}
	}
}

// How many bytes a payload has is what counts, whichever they are.
func TestFitsOfAnyBytes(t *testing.T) {
	for _, p := range payloads() {
		fits(t, 4084-len(p), p, true)
		fits(t, 4085-len(p), p, false)
	}
	fits(t, 2084, strings.Repeat("ä", 1000), true)
	fits(t, 12, strings.Repeat("ä", 1001), false)
	fits(t, 12, strings.Repeat("\x00", 2000), true)
	fits(t, 12, strings.Repeat("\xff", 2001), false)
}

// P11.4

func TestCutOff(t *testing.T) {
	l := payloads()
	for _, n := range someChunks() {
		s, places := joined(n, l)
		for size := range len(s) + 1 {
			if size < 12 {
				scans(t, s[:size], n, nil, 0)
				continue
			}
			k := 0
			for k < len(l) && places[k+1] <= size {
				k++
			}
			scans(t, s[:size], n, places[:k], places[k])
		}
	}
}

func TestAnotherNumbersChunk(t *testing.T) {
	for n := range 200 {
		s := Head(n)
		for m := range 200 {
			if m == n {
				scans(t, s, m, nil, 12)
				scans(t, s+laid("ab"), m, []int{12}, 26)
				continue
			}
			scansNone(t, s, m)
			scansNone(t, s+laid("ab"), m)
		}
	}
}

// A beginning that two heads share may be either's; with one byte of the number that is another one, it is no more.
func TestAnotherNumbersChunkCutOff(t *testing.T) {
	s := head(4)
	for size := range 12 {
		if size < 8 {
			scans(t, s[:size], 3, nil, 0)
			continue
		}
		scansNone(t, s[:size], 3)
	}
}

func TestAnyByteOfAHeadAnotherOne(t *testing.T) {
	for n := range 200 {
		s := head(n)
		for at := range len(s) {
			for b := range 256 {
				if byte(b) == s[at] {
					continue
				}
				y := s[:at] + string([]byte{byte(b)}) + s[at+1:]
				scansNone(t, y, n)
				scansNone(t, y+laid("ab"), n)
				scansNone(t, y[:at+1], n)
			}
		}
	}
}

func TestAnyPayloadFitsBehindAHead(t *testing.T) {
	all := x(2000)
	for _, n := range []int{0, 3, 199} {
		for size := range 2001 {
			fits(t, len(Head(n)), all[:size], true)
		}
	}
}

// A chunk that is filled as long as Fits says so has no more bytes than it may, and all of it is found.
func TestFilled(t *testing.T) {
	r := rand.New(rand.NewSource(12))
	for n := range 200 {
		s := Head(n)
		var places []int
		for {
			p := noise(r, r.Intn(2001)>>r.Intn(8))
			if !Fits(len(s), p) {
				break
			}
			places = append(places, len(s))
			record, e := records.Put(p)
			if e != api.OK {
				t.Fatalf("records.Put of %d bytes: %v", len(p), e)
			}
			s += record
		}
		if len(s) > 4096 || len(places) == 0 {
			t.Fatalf("%d bytes, %d records", len(s), len(places))
		}
		scans(t, s, n, places, len(s))
	}
}

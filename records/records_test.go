package records

import (
	"encoding/binary"
	"hash/crc32"
	"math"
	"math/rand"
	"slices"
	"strconv"
	"strings"
	"testing"

	"annalist/api"
)

// x is a text of n bytes.
func x(n int) string { return strings.Repeat("x", n) }

// noise is n bytes of no pattern.
func noise(r *rand.Rand, n int) string {
	b := make([]byte, n)
	r.Read(b)
	return string(b)
}

// laid is the bytes that the chapter asks for, put by the library, however long the payload is.
func laid(payload string) string {
	b := binary.BigEndian.AppendUint32(nil, uint32(len(payload)))
	b = append(b, payload...)
	b = binary.LittleEndian.AppendUint32(b, crc32.ChecksumIEEE(b))
	return string(binary.BigEndian.AppendUint32(b, uint32(len(payload))))
}

// framed is a text between two lengths, with the right sum, whatever the lengths say.
func framed(ahead uint32, payload string, behind uint32) string {
	b := binary.BigEndian.AppendUint32(nil, ahead)
	b = append(b, payload...)
	b = binary.LittleEndian.AppendUint32(b, crc32.ChecksumIEEE(b))
	return string(binary.BigEndian.AppendUint32(b, behind))
}

// head is what a failure tells of a text.
func head(s string) string {
	if len(s) <= 40 {
		return strconv.Quote(s)
	}
	return strconv.Quote(s[:40]) + " of " + strconv.Itoa(len(s)) + " bytes"
}

// payloads are at the edges of the length and of its bytes, of bytes of all kinds, and some that have records within.
func payloads() []string {
	l := []string{"", "a", "ab", "\x00", "\x00\x00\x00\x00", "\x00\x00\x00\x02ab", "\xff\xff\xff\xff", "ä€", strings.Repeat("\x00", 40)}
	l = append(l, laid(""), laid("ab"), laid("ab")+laid("c"), laid(laid("ab")), "x"+laid("ab"), laid("ab")+"x", laid("ab")[:13], laid("ab")[1:])
	for _, n := range []int{127, 128, 255, 256, 257, 511, 512, 1024, 1999, 2000} {
		l = append(l, x(n))
	}
	r := rand.New(rand.NewSource(8))
	for n := range 40 {
		l = append(l, noise(r, n))
	}
	return append(l, noise(r, 2000), strings.Repeat("\x00", 2000))
}

// noPlaces are places that a text of n bytes does not have.
func noPlaces(n int) []int {
	return []int{math.MinInt, math.MinInt + 1, math.MinInt32, -4096, -n - 1, -n, -14, -13, -12, -4, -1, n + 1, n + 2, n + 4, n + 12, n + 4096, math.MaxInt32, math.MaxInt - 12, math.MaxInt - 1, math.MaxInt}
}

// found is the payload of the record that stands at a place, for which all lengths are tried.
func found(s string, at int) (payload string, next int, ok bool) {
	for n := range 2001 {
		if at < 0 || n+12 > len(s)-at {
			break
		}
		if p := s[at+4 : at+4+n]; s[at:at+n+12] == laid(p) {
			return p, at + n + 12, true
		}
	}
	return "", 0, false
}

// foundAhead is the payload of the record that ends at a place, for which all places are tried.
func foundAhead(s string, end int) (payload string, at int, ok bool) {
	for at := range max(0, min(end, len(s)+1)) {
		if p, next, ok := found(s, at); ok && next == end {
			return p, at, true
		}
	}
	return "", 0, false
}

// allFound is the places of the records that stand one behind the other, and where they end.
func allFound(s string, from int) (at []int, end int) {
	if from < 0 || from > len(s) {
		return nil, 0
	}
	for {
		_, next, ok := found(s, from)
		if !ok {
			return at, from
		}
		at, from = append(at, from), next
	}
}

// gets holds what Get tells against what is asked for.
func gets(t *testing.T, s string, at int, payload string, next int, ok bool) {
	t.Helper()
	p, n, is := Get(s, at)
	if p != payload || n != next || is != ok {
		t.Errorf("Get(%s, %d): %s, %d, %v, not %s, %d, %v", head(s), at, head(p), n, is, head(payload), next, ok)
	}
}

// backs holds what Back tells against what is asked for.
func backs(t *testing.T, s string, end int, payload string, at int, ok bool) {
	t.Helper()
	p, n, is := Back(s, end)
	if p != payload || n != at || is != ok {
		t.Errorf("Back(%s, %d): %s, %d, %v, not %s, %d, %v", head(s), end, head(p), n, is, head(payload), at, ok)
	}
}

// wholes holds what Whole tells against what is asked for.
func wholes(t *testing.T, s string, from int, at []int, end int) {
	t.Helper()
	l, n := Whole(s, from)
	if !slices.Equal(l, at) || n != end {
		t.Errorf("Whole(%s, %d): %v, %d, not %v, %d", head(s), from, l, n, at, end)
	}
}

// heldAgainstFound holds all three against what is found where everything is tried, at each place and beside them.
func heldAgainstFound(t *testing.T, s string) {
	t.Helper()
	for place := -2; place <= len(s)+2; place++ {
		p, n, ok := found(s, place)
		gets(t, s, place, p, n, ok)
		p, n, ok = foundAhead(s, place)
		backs(t, s, place, p, n, ok)
		l, n := allFound(s, place)
		wholes(t, s, place, l, n)
	}
}

// joined is the records of some payloads, one behind the other, their places, and the place behind the last one.
func joined(l []string) (s string, at []int, end int) {
	var b strings.Builder
	for _, p := range l {
		at = append(at, b.Len())
		b.WriteString(laid(p))
	}
	return b.String(), at, b.Len()
}

// P8.1

func TestPut(t *testing.T) {
	for _, c := range []struct{ payload, want string }{
		{"", "\x00\x00\x00\x00\x1c\xdf\x44\x21\x00\x00\x00\x00"},
		{"ab", "\x00\x00\x00\x02ab\x5f\x2f\x1c\x6d\x00\x00\x00\x02"},
	} {
		if s, e := Put(c.payload); s != c.want || e != api.OK {
			t.Errorf("Put(%q): %q, %v, not %q", c.payload, s, e, c.want)
		}
	}
	for _, p := range payloads() {
		if s, e := Put(p); s != laid(p) || e != api.OK {
			t.Errorf("Put(%s): %s, %v, not %s", head(p), head(s), e, head(laid(p)))
		}
	}
}

func TestPutOfEachLength(t *testing.T) {
	all := x(2000)
	for n := range 2001 {
		if s, e := Put(all[:n]); s != laid(all[:n]) || len(s) != n+12 || e != api.OK {
			t.Fatalf("Put of %d bytes: %d bytes, %v", n, len(s), e)
		}
	}
}

func TestPutTooLong(t *testing.T) {
	for _, n := range []int{2001, 2002, 2012, 4096, 65535, 65536, 65538, 67536, 1 << 20} {
		if s, e := Put(x(n)); s != "" || e != api.ErrLong {
			t.Errorf("Put of %d bytes: %d bytes, %v", n, len(s), e)
		}
	}
}

// P8.2

func TestGet(t *testing.T) {
	s := laid("ab")
	gets(t, s, 0, "ab", 14, true)
	gets(t, s, 1, "", 0, false)
	gets(t, s, 14, "", 0, false)
	gets(t, s+"x", 0, "ab", 14, true)
	gets(t, "x"+s, 1, "ab", 15, true)
	gets(t, "x"+s, 0, "", 0, false)
	gets(t, laid("")+s, 0, "", 12, true)
	gets(t, laid("")+s, 12, "ab", 26, true)
	for _, p := range payloads() {
		for _, ahead := range []string{"", "x", "\x00\x00\x00\x02", laid("ab"), x(4096)} {
			for _, behind := range []string{"", "x", "\x00\x00\x00", laid("c"), x(4096)} {
				gets(t, ahead+laid(p)+behind, len(ahead), p, len(ahead)+len(p)+12, true)
			}
		}
	}
}

func TestGetOfNone(t *testing.T) {
	for _, s := range []string{"", "a", x(11), x(12), x(5000), strings.Repeat("\x00", 11), strings.Repeat("\x00", 12), strings.Repeat("\x00", 5000), strings.Repeat("\xff", 12), strings.Repeat("\xff", 5000), "\x00\x00\x00\x02ab\x5f\x2f\x1c", "\x00\x00\x07\xd0" + x(2007)} {
		for _, at := range []int{0, 1, 2, 4, len(s) - 12, len(s) - 4, len(s) - 1, len(s)} {
			gets(t, s, at, "", 0, false)
		}
	}
}

func TestGetOfNoPlace(t *testing.T) {
	for _, s := range []string{"", "a", laid(""), laid("ab"), laid("ab") + laid("c"), laid(x(2000))} {
		for _, at := range noPlaces(len(s)) {
			gets(t, s, at, "", 0, false)
		}
	}
}

func TestBack(t *testing.T) {
	s := laid("ab")
	backs(t, s, 14, "ab", 0, true)
	backs(t, s, 13, "", 0, false)
	backs(t, s, 0, "", 0, false)
	backs(t, s+"x", 14, "ab", 0, true)
	backs(t, s+"x", 15, "", 0, false)
	backs(t, "x"+s, 15, "ab", 1, true)
	backs(t, "x"+s, 14, "", 0, false)
	backs(t, laid("")+s, 26, "ab", 12, true)
	backs(t, laid("")+s, 12, "", 0, true)
	for _, p := range payloads() {
		for _, ahead := range []string{"", "x", "\x00\x00\x00\x02", laid("ab"), x(4096)} {
			for _, behind := range []string{"", "x", "\x00\x00\x00", laid("c"), x(4096)} {
				backs(t, ahead+laid(p)+behind, len(ahead)+len(p)+12, p, len(ahead), true)
			}
		}
	}
}

func TestBackOfNone(t *testing.T) {
	for _, s := range []string{"", "a", x(11), x(12), x(5000), strings.Repeat("\x00", 11), strings.Repeat("\x00", 12), strings.Repeat("\x00", 5000), strings.Repeat("\xff", 12), strings.Repeat("\xff", 5000), "\x00\x02ab\x5f\x2f\x1c\x6d\x00\x00\x00\x02", x(2007) + "\x00\x00\x07\xd0"} {
		for _, end := range []int{0, 1, 3, 4, 11, 12, len(s) - 1, len(s)} {
			backs(t, s, end, "", 0, false)
		}
	}
}

func TestBackOfNoPlace(t *testing.T) {
	for _, s := range []string{"", "a", laid(""), laid("ab"), laid("ab") + laid("c"), laid(x(2000))} {
		for _, end := range noPlaces(len(s)) {
			backs(t, s, end, "", 0, false)
		}
	}
}

// A payload of more than 2000 bytes has no record, though all of its bytes, laid like one, are right.
func TestLongerOnesDoNotStand(t *testing.T) {
	for _, n := range []int{2001, 2002, 4096, 65536, 65538, 1 << 20} {
		s := laid(x(n))
		gets(t, s, 0, "", 0, false)
		backs(t, s, len(s), "", 0, false)
		wholes(t, s, 0, nil, 0)
		wholes(t, laid("ab")+s, 0, []int{0}, 14)
	}
}

// Where the two lengths are not one, nothing stands, though the sum is right.
func TestLengthsThatAreTwo(t *testing.T) {
	for _, p := range []string{"", "ab", x(256), x(2000)} {
		n := uint32(len(p))
		for _, other := range []uint32{0, 1, 2, 3, 12, 255, 256, 258, 2000, 2001, 65536, 65538, 1<<16 + n, 1<<24 + n, 1<<31 + n, 1<<32 - 12, 1<<32 - 1, n - 1, n + 1, n << 24} {
			for _, s := range []string{framed(n, p, other), framed(other, p, n), framed(other, p, other)} {
				if s == laid(p) {
					continue
				}
				gets(t, s, 0, "", 0, false)
				gets(t, s+x(5000), 0, "", 0, false)
				backs(t, s, len(s), "", 0, false)
				backs(t, x(5000)+s, 5000+len(s), "", 0, false)
				wholes(t, s, 0, nil, 0)
			}
		}
	}
}

// The sum is of the length and the payload, its lowest byte first: with any other one nothing stands.
func TestSumsOfOtherThings(t *testing.T) {
	for _, p := range []string{"", "ab", x(256), x(2000)} {
		right := laid(p)
		n := len(p) + 4
		sum := binary.LittleEndian.Uint32([]byte(right[n:]))
		for _, other := range []uint32{0, ^sum, sum + 1, sum ^ 1, sum ^ 1<<31, crc32.ChecksumIEEE([]byte(p)), crc32.ChecksumIEEE([]byte(right)), binary.BigEndian.Uint32([]byte(right[n:]))} {
			s := right[:n] + string(binary.LittleEndian.AppendUint32(nil, other)) + right[n+4:]
			if s == right {
				continue
			}
			gets(t, s, 0, "", 0, false)
			backs(t, s, len(s), "", 0, false)
		}
	}
}

// The last bytes of a text say how long a record is, for which there is no room ahead of them, or another one, that ends elsewhere.
func TestBackOfLengthsThatLeadElsewhere(t *testing.T) {
	backs(t, framed(3, "ab", 3), 14, "", 0, false)
	backs(t, "x"+laid("ab")+"\x00\x00\x00\x05", 19, "", 0, false)
	s := laid("ab") + "x" + "\x00\x00\x00\x07"
	backs(t, s, len(s), "", 0, false)
	gets(t, s, 0, "ab", 14, true)
	within := laid(laid("ab"))
	backs(t, within, len(within), laid("ab"), 0, true)
	backs(t, within, 18, "ab", 4, true)
	backs(t, within+laid("c"), 18, "ab", 4, true)
	longer := laid("12345678\x00\x00\x00\x04y")
	backs(t, longer, 16, "", 0, false)
	backs(t, longer, len(longer), "12345678\x00\x00\x00\x04y", 0, true)
}

// P8.3

func TestWhole(t *testing.T) {
	s := laid("ab")
	wholes(t, s, 0, []int{0}, 14)
	wholes(t, s+s, 0, []int{0, 14}, 28)
	wholes(t, (s + s)[:27], 0, []int{0}, 14)
	wholes(t, s+s, 14, []int{14}, 28)
	wholes(t, s+s, 28, nil, 28)
	wholes(t, s+s, 1, nil, 1)
	wholes(t, s+s, 13, nil, 13)
	wholes(t, s+s, 27, nil, 27)
	wholes(t, "", 0, nil, 0)
	wholes(t, "a", 0, nil, 0)
	wholes(t, "a", 1, nil, 1)
	wholes(t, laid("")+laid("")+laid(""), 0, []int{0, 12, 24}, 36)
}

// What does not stand just behind another one is not looked for.
func TestWholeOfWhatIsFartherOn(t *testing.T) {
	s := laid("ab")
	wholes(t, "x"+s, 0, nil, 0)
	wholes(t, "x"+s, 1, []int{1}, 15)
	wholes(t, s+"x"+s, 0, []int{0}, 14)
	wholes(t, s+"x"+s, 14, nil, 14)
	wholes(t, s+"x"+s, 15, []int{15}, 29)
	wholes(t, s+laid(x(2001))+s, 0, []int{0}, 14)
	within := laid(s + s)
	wholes(t, within+s, 0, []int{0, len(within)}, len(within)+14)
	wholes(t, within+s, 4, []int{4, 18}, 32)
}

func TestWholeOfNoPlace(t *testing.T) {
	for _, s := range []string{"", "a", laid(""), laid("ab"), laid("ab") + laid("c"), laid(x(2000))} {
		for _, from := range noPlaces(len(s)) {
			wholes(t, s, from, nil, 0)
		}
	}
}

func TestWholeOfMany(t *testing.T) {
	var l []string
	for range 1000 {
		l = append(l, payloads()[:60]...)
	}
	s, at, end := joined(l)
	wholes(t, s, 0, at, end)
	wholes(t, s+"x", 0, at, end)
	wholes(t, s, at[777], at[777:], end)
}

func TestListsAreTheCallers(t *testing.T) {
	s := laid("ab") + laid("c")
	l, _ := Whole(s, 0)
	l[0], l[1] = 7, 8
	wholes(t, s, 0, []int{0, 14}, 27)
}

// P8.4

func TestFromTheFrontAndFromTheEnd(t *testing.T) {
	var s string
	for _, p := range payloads() {
		record, e := Put(p)
		if e != api.OK {
			t.Fatalf("Put(%s): %v", head(p), e)
		}
		s += record
	}
	place := 0
	for _, want := range payloads() {
		p, next, ok := Get(s, place)
		if p != want || !ok {
			t.Fatalf("from the front, at %d: %s, %v, not %s", place, head(p), ok, head(want))
		}
		place = next
	}
	gets(t, s, place, "", 0, false)
	if place != len(s) {
		t.Errorf("from the front: up to %d of %d", place, len(s))
	}
	for _, want := range slices.Backward(payloads()) {
		p, at, ok := Back(s, place)
		if p != want || !ok {
			t.Fatalf("from the end, ahead of %d: %s, %v, not %s", place, head(p), ok, head(want))
		}
		place = at
	}
	if place != 0 {
		t.Errorf("from the end: down to %d", place)
	}
	_, at, end := joined(payloads())
	wholes(t, s, 0, at, end)
}

func TestCutOff(t *testing.T) {
	l := []string{"", "ab", laid("ab"), "", laid("") + laid("c"), strings.Repeat("\x00", 30), strings.Repeat("\xff", 20), laid(laid(laid("d"))), "\x00\x00\x00\x00", "e"}
	s, at, end := joined(l)
	places := append(slices.Clone(at), end)
	for n := range len(s) + 1 {
		k := 0
		for k < len(l) && places[k+1] <= n {
			k++
		}
		wholes(t, s[:n], 0, at[:k], places[k])
		for i := range l {
			if i < k {
				gets(t, s[:n], at[i], l[i], places[i+1], true)
				backs(t, s[:n], places[i+1], l[i], at[i], true)
				continue
			}
			gets(t, s[:n], at[i], "", 0, false)
			backs(t, s[:n], places[i+1], "", 0, false)
		}
	}
}

// What is left of a record that is cut off, with other bytes where the rest was, does not stand but where these make it one.
func TestCutOffWithOthersBehind(t *testing.T) {
	r := rand.New(rand.NewSource(9))
	for _, p := range []string{"", "ab", laid("ab"), noise(r, 100)} {
		s := laid(p)
		for n := range len(s) {
			for _, behind := range []string{noise(r, 12), laid(p), laid("c"), strings.Repeat("\x00", 200), x(200)} {
				y := s[:n] + behind
				p, next, ok := found(y, 0)
				gets(t, y, 0, p, next, ok)
				l, end := allFound(y, 0)
				wholes(t, y, 0, l, end)
			}
		}
	}
}

// masks are bits to be turned over within four bytes: single ones, runs, and some of no pattern.
func masks() []uint32 {
	l := []uint32{1<<32 - 1, 0x80000001, 0xEDB88320, 0xEDB88321, 0xDB710641, 0x04C11DB7, 0xAAAAAAAA, 0x55555555}
	for i := range 32 {
		l = append(l, 1<<i, 1<<32-1-1<<i, 1<<i-1|1<<31)
	}
	r := rand.New(rand.NewSource(3))
	for range 100 {
		l = append(l, r.Uint32()|1)
	}
	return l
}

// flipped is a text with the bits of a mask turned over in four bytes from a place on; the bits that find no room there stay.
func flipped(s string, at int, mask uint32) string {
	b := []byte(s)
	for i := range 4 {
		if at+i < len(b) {
			b[at+i] ^= byte(mask >> (8 * i))
		}
	}
	return string(b)
}

func TestBitsTurnedOver(t *testing.T) {
	for _, p := range []string{"", "a", "annalist", strings.Repeat("\x00", 12), strings.Repeat("\xff", 20), laid("ab") + laid("c"), x(300)} {
		s := laid(p)
		for at := range len(s) {
			for _, mask := range masks() {
				y := flipped(s, at, mask)
				if y == s {
					continue
				}
				if y[:4] == s[:4] {
					gets(t, y, 0, "", 0, false)
					backs(t, y, len(y), "", 0, false)
					wholes(t, laid("ab")+y+laid("ab"), 0, []int{0}, 14)
					continue
				}
				if p, next, ok := Get(y, 0); ok && (p == s[4:len(s)-8] || next == len(s)) {
					t.Fatalf("Get(%s, 0): %s, %d", head(y), head(p), next)
				}
				backs(t, y, len(y), "", 0, false)
			}
		}
	}
}

// The first four bytes may say another length, at which a record stands that was laid there.
func TestBitsTurnedOverOfALength(t *testing.T) {
	within := laid("ab")[4:]
	s := laid(within)
	y := flipped(s, 0, 8<<24)
	gets(t, s, 0, within, 22, true)
	gets(t, y, 0, "ab", 14, true)
	wholes(t, y, 0, []int{0}, 14)
	backs(t, y, 14, "ab", 0, true)
	backs(t, y, 22, "", 0, false)
}

func TestAllPlacesOfSomeTexts(t *testing.T) {
	for _, s := range []string{"", "x", laid(""), laid("ab"), laid(laid("ab")), laid("") + laid("ab") + laid(laid("c")), "x" + laid("ab") + laid("c") + "y" + laid("d"), laid("ab")[1:] + laid("ab"), strings.Repeat("\x00", 60), strings.Repeat("\xff", 60)} {
		heldAgainstFound(t, s)
	}
	r := rand.New(rand.NewSource(10))
	for range 100 {
		s := laid(noise(r, r.Intn(4))) + laid(laid(noise(r, r.Intn(4)))) + laid(noise(r, r.Intn(4)))
		b := []byte(s)
		for range r.Intn(3) {
			b[r.Intn(len(b))] ^= 1 << r.Intn(8)
		}
		heldAgainstFound(t, string(b[r.Intn(3):len(b)-r.Intn(3)]))
	}
}

package manifests

import (
	"encoding/binary"
	"hash/crc32"
	"math"
	"math/rand"
	"slices"
	"strconv"
	"strings"
	"testing"

	"annalist/api"
)

// show is a manifest as a failure tells it.
func show(m api.Manifest) string {
	var levels []string
	for i, level := range m.Levels {
		if i == 12 {
			levels = append(levels, ".. ("+strconv.Itoa(len(m.Levels))+")")
			break
		}
		var numbers []string
		for _, n := range level[:min(len(level), 50)] {
			numbers = append(numbers, strconv.Itoa(n))
		}
		levels = append(levels, strings.Join(numbers, " "))
	}
	return "[Next " + strconv.Itoa(m.Next) + ", Check " + strconv.Itoa(m.Check) + ", Seed " + strconv.FormatUint(m.Seed, 10) + ": " + strings.Join(levels, " / ") + "]"
}

// of is a manifest, shortly.
func of(next, check int, seed uint64, levels ...[]int) api.Manifest {
	return api.Manifest{Next: next, Check: check, Seed: seed, Levels: levels}
}

// row is so many numbers, from one on.
func row(from, n int) []int {
	var l []int
	for i := range n {
		l = append(l, from+i)
	}
	return l
}

// full is as many tables as there may be, in so many levels.
func full(levels int) [][]int {
	var l [][]int
	for i := range levels {
		from := i * 40 / levels
		l = append(l, row(from, (i+1)*40/levels-from))
	}
	return l
}

// taken is a manifest whose lists no others share.
func taken(m api.Manifest) api.Manifest {
	var levels [][]int
	for _, level := range m.Levels {
		levels = append(levels, append([]int(nil), level...))
	}
	m.Levels = levels
	return m
}

// mayBe is the chapter's words of a manifest that may be.
func mayBe(m api.Manifest) bool {
	if m.Next < 0 || m.Next > 1000000 || m.Check < 0 || m.Check > 2147483647 || len(m.Levels) > 5 {
		return false
	}
	seen := map[int]int{}
	for _, level := range m.Levels {
		for _, n := range level {
			seen[n]++
			if n < 0 || n >= m.Next || seen[n] == 2 {
				return false
			}
		}
	}
	return len(seen) <= 40
}

// alike is the chapter's words of manifests that are the same: up to the longer one's end, each level has the other one's numbers.
func alike(a, b api.Manifest) bool {
	if a.Next != b.Next || a.Check != b.Check || a.Seed != b.Seed {
		return false
	}
	for i := range max(len(a.Levels), len(b.Levels)) {
		if strings.Join(strung(a.Levels, i), " ") != strings.Join(strung(b.Levels, i), " ") {
			return false
		}
	}
	return true
}

// strung is a level's numbers as texts; none, if there is no such level.
func strung(levels [][]int, i int) []string {
	var l []string
	if i < len(levels) {
		for _, n := range levels[i] {
			l = append(l, strconv.Itoa(n))
		}
	}
	return l
}

// equal tells whether two are the same, with as many levels, and says nothing of manifests.Same.
func equal(a, b api.Manifest) bool {
	return alike(a, b) && len(a.Levels) == len(b.Levels)
}

// sealed is a text with its sum behind it, by the library.
func sealed(s string) string {
	return string(binary.LittleEndian.AppendUint32([]byte(s), crc32.ChecksumIEEE([]byte(s))))
}

// unsealed is what stands ahead of a manifest's sum, with all levels that are there, also where no manifest has such numbers.
func unsealed(m api.Manifest) string {
	b := binary.BigEndian.AppendUint32([]byte("imap"), uint32(m.Next))
	b = binary.BigEndian.AppendUint32(b, uint32(m.Check))
	b = binary.BigEndian.AppendUint64(b, m.Seed)
	b = append(b, byte(len(m.Levels)))
	for _, level := range m.Levels {
		b = append(b, byte(len(level)))
		for _, n := range level {
			b = binary.BigEndian.AppendUint32(b, uint32(n))
		}
	}
	return string(b)
}

func laid(m api.Manifest) string { return sealed(unsealed(m)) }

// bare is a manifest without empty levels at the end.
func bare(m api.Manifest) api.Manifest {
	end := 0
	for i, level := range m.Levels {
		if len(level) > 0 {
			end = i + 1
		}
	}
	m.Levels = m.Levels[:end]
	return m
}

// drawn is a manifest that may be, with up to so many levels, of which some may be empty, also at the end.
func drawn(r *rand.Rand, levels int) api.Manifest {
	m := of(1+r.Intn(1000000), r.Intn(1<<31), r.Uint64())
	m.Levels = make([][]int, r.Intn(levels+1))
	if r.Intn(3) == 0 {
		m.Next = 1 + r.Intn(60)
	}
	if len(m.Levels) == 0 {
		return m
	}
	seen := map[int]int{}
	for range r.Intn(41) {
		n, i := r.Intn(m.Next), r.Intn(len(m.Levels))
		if seen[n]++; seen[n] == 1 {
			m.Levels[i] = append(m.Levels[i], n)
		}
	}
	return m
}

// above is the least number that is above all tables'.
func above(levels [][]int) int {
	next := 0
	for _, level := range levels {
		for _, n := range level {
			next = max(next, n+1)
		}
	}
	return next
}

// edges is manifests that may be, with numbers at ends; some have empty levels at the end.
func edges() []api.Manifest {
	var l []api.Manifest
	for _, levels := range [][][]int{
		nil, {{}}, {nil, nil, nil, nil, nil}, {{0}}, {{}, {0}}, {{0}, nil}, {nil, nil, nil, nil, {0}}, {{2, 0, 1}}, {{0}, {1}, {2}}, {{3, 4}, {}, {5}, {}, {}},
		full(1), full(2), full(3), full(4), full(5), {nil, nil, row(10, 40)}, {{999999}, {255, 256, 65535, 65536}, {999998}},
	} {
		for _, check := range []int{0, 12, 255, 256, 4096, 1<<31 - 1} {
			for _, seed := range []uint64{0, 1, 1<<32 + 1, 1 << 63, math.MaxUint64} {
				for _, next := range []int{above(levels), 1000000} {
					l = append(l, of(next, check, seed, levels...))
				}
			}
		}
	}
	return l
}

// wrong is manifests that may not be, each by one thing alone.
func wrong() []api.Manifest {
	l := []api.Manifest{
		of(-1, 0, 0), of(math.MinInt, 0, 0), of(1000001, 0, 0), of(1<<31, 0, 0), of(1<<32, 0, 0), of(math.MaxInt, 0, 0),
		of(0, -1, 0), of(0, math.MinInt, 0), of(0, 1<<31, 0), of(0, 1<<32, 0), of(0, math.MaxInt, 0),
		of(1000001, 0, 0, []int{5}), of(9, 1<<31, 0, []int{5}), of(9, -1, 0, []int{5}),
		of(1, 0, 0, []int{1}), of(0, 0, 0, []int{0}), of(5, 0, 0, []int{4}, []int{5}), of(5, 0, 0, []int{5}, []int{4}), of(1000000, 0, 0, []int{1000000}),
		of(5, 0, 0, []int{1, 2, 3, 6, 4}), of(5, 0, 0, nil, nil, nil, nil, []int{6}), of(5, 0, 0, []int{math.MaxInt}), of(5, 0, 0, []int{1 << 32}),
		of(9, 0, 0, []int{-1}), of(9, 0, 0, []int{1, 2}, []int{3, math.MinInt}),
		of(9, 0, 0, []int{1, 1}), of(9, 0, 0, []int{1}, nil, []int{1}), of(9, 0, 0, []int{1, 2}, []int{3, 2}),
		of(99, 0, 0, row(0, 41)), of(99, 0, 0, row(0, 40), nil, nil, nil, []int{40}), of(1000000, 0, 0, row(0, 300)),
		of(9, 0, 0, []int{1}, []int{2}, []int{3}, []int{4}, []int{5}, []int{6}), of(9, 0, 0, make([][]int, 6)...), of(9, 0, 0, []int{1}, nil, nil, nil, nil, nil),
		of(9, 0, 0, make([][]int, 256)...), of(9, 0, 0, make([][]int, 257)...),
	}
	for _, next := range []int{-5, 1000001} {
		for _, check := range []int{-5, 1 << 31} {
			l = append(l, of(next, check, 7, []int{-5, -5}))
		}
	}
	return l
}

// valid, same, put and get hold the calls against these words, and what was handed in against what it was.
func valid(t *testing.T, m api.Manifest) {
	t.Helper()
	was := taken(m)
	if ok := Valid(m); ok != mayBe(was) {
		t.Fatalf("Valid of %s: %v", show(was), ok)
	}
	stays(t, m, was)
}

func same(t *testing.T, a, b api.Manifest) {
	t.Helper()
	wasA, wasB := taken(a), taken(b)
	if Same(a, b) != alike(wasA, wasB) || Same(b, a) != alike(wasA, wasB) {
		t.Fatalf("Same of %s and %s: %v, and turned about: %v", show(wasA), show(wasB), Same(a, b), Same(b, a))
	}
	stays(t, a, wasA)
	stays(t, b, wasB)
}

func puts(t *testing.T, m api.Manifest) string {
	t.Helper()
	was := taken(m)
	want, wanted := "", api.ErrArg
	if mayBe(was) {
		want, wanted = laid(bare(was)), api.OK
	}
	s, e := Put(m)
	if s != want || e != wanted {
		t.Fatalf("Put of %s: %q, %v, not %q, %v", show(was), s, e, want, wanted)
	}
	stays(t, m, was)
	return s
}

func gets(t *testing.T, s string, want api.Manifest) api.Manifest {
	t.Helper()
	m, e := Get(s)
	if !equal(m, want) || e != api.OK {
		t.Fatalf("Get of the bytes of %s: %s, %v", show(want), show(m), e)
	}
	return m
}

// isNone holds what is got of some bytes against ErrTable, and nothing beside it.
func isNone(t *testing.T, what, s string) {
	t.Helper()
	if m, e := Get(s); e != api.ErrTable || !equal(m, api.Manifest{}) {
		t.Fatalf("Get of %s, %d bytes, %.80q: %s, %v", what, len(s), s, show(m), e)
	}
}

// stays tells a failure, if a manifest is another one than it was.
func stays(t *testing.T, m, was api.Manifest) {
	t.Helper()
	if !equal(m, was) {
		t.Fatalf("a manifest is changed: %s, not %s", show(m), show(was))
	}
}

// P22.1

func TestValid(t *testing.T) {
	for _, c := range []struct {
		m    api.Manifest
		want bool
	}{
		{api.Manifest{}, true},
		{api.Manifest{Levels: [][]int{}}, true},
		{of(0, 0, math.MaxUint64), true},
		{of(1000000, 0, 0), true},
		{of(1000001, 0, 0), false},
		{of(-1, 0, 0), false},
		{of(0, 2147483647, 0), true},
		{of(0, 2147483648, 0), false},
		{of(0, -1, 0), false},
		{of(1000000, 2147483647, math.MaxUint64, []int{999999}), true},
		{of(1, 0, 0, []int{0}), true},
		{of(1, 0, 0, []int{1}), false},
		{of(2, 0, 0, []int{1}), true},
		{of(0, 0, 0, []int{0}), false},
		{of(0, 0, 0, nil, nil, nil, nil, nil), true},
		{of(0, 0, 0, nil, nil, nil, nil, nil, nil), false},
		{of(40, 0, 0, row(0, 40)), true},
		{of(39, 0, 0, row(0, 40)), false},
		{of(41, 0, 0, row(0, 41)), false},
		{of(40, 0, 0, full(5)...), true},
		{of(40, 0, 0, append(full(5), nil)...), false},
		{of(7, 0, 0, []int{3, 4}, nil, []int{6}), true},
		{of(7, 0, 0, []int{3, 4}, nil, []int{4}), false},
		{of(7, 0, 0, []int{3, 4}, nil, []int{-4}), false},
	} {
		if ok := Valid(c.m); ok != c.want {
			t.Errorf("Valid of %s: %v", show(c.m), ok)
		}
	}
}

func TestValidOfEdges(t *testing.T) {
	for _, m := range edges() {
		if valid(t, m); !Valid(m) {
			t.Fatalf("Valid of %s: false", show(m))
		}
	}
	for _, m := range wrong() {
		if valid(t, m); Valid(m) {
			t.Fatalf("Valid of %s: true", show(m))
		}
	}
}

// TestOneNumberMakesAManifestNone has, at each place of tables, Next or another table's number, or what is below 0 or above Next.
func TestOneNumberMakesAManifestNone(t *testing.T) {
	for levels := 1; levels <= 5; levels++ {
		m := of(40, 12, 7, full(levels)...)
		for i := range m.Levels {
			for k := range m.Levels[i] {
				was := m.Levels[i][k]
				for _, n := range []int{40, 41, 1 << 40, math.MaxInt, -1, math.MinInt, (was + 1) % 40, (was + 23) % 40} {
					if m.Levels[i][k] = n; Valid(m) {
						t.Fatalf("Valid of %s: true", show(m))
					}
					puts(t, m)
				}
				m.Levels[i][k] = was
			}
		}
		if !Valid(m) {
			t.Fatalf("Valid of %s: false", show(m))
		}
	}
}

func TestSame(t *testing.T) {
	a := of(9, 12, 7, []int{3, 4}, nil, []int{5})
	for _, c := range []struct {
		a, b api.Manifest
		want bool
	}{
		{api.Manifest{}, api.Manifest{}, true},
		{api.Manifest{}, of(0, 0, 0, nil, []int{}, nil), true},
		{a, taken(a), true},
		{a, of(9, 12, 7, []int{3, 4}, []int{}, []int{5}), true},
		{a, of(9, 12, 7, []int{3, 4}, nil, []int{5}, nil), true},
		{a, of(9, 12, 7, []int{3, 4}, nil, []int{5}, nil, []int{}), true},
		{a, of(9, 12, 7, []int{3, 4}, nil, []int{5}, nil, []int{6}), false},
		{a, of(10, 12, 7, []int{3, 4}, nil, []int{5}), false},
		{a, of(9, 13, 7, []int{3, 4}, nil, []int{5}), false},
		{a, of(9, 12, 8, []int{3, 4}, nil, []int{5}), false},
		{a, of(9, 12, 7+1<<63, []int{3, 4}, nil, []int{5}), false},
		{a, of(9, 12, 7), false},
		{a, of(9, 12, 7, []int{4, 3}, nil, []int{5}), false},
		{a, of(9, 12, 7, []int{3, 4}, []int{5}), false},
		{a, of(9, 12, 7, []int{3, 4}, nil, nil, []int{5}), false},
		{a, of(9, 12, 7, nil, []int{3, 4}, nil, []int{5}), false},
		{a, of(9, 12, 7, []int{3}, []int{4}, []int{5}), false},
		{a, of(9, 12, 7, []int{3, 4, 5}), false},
		{a, of(9, 12, 7, []int{3, 4}, nil, []int{6}), false},
		{a, of(9, 12, 7, []int{3, 4}, nil), false},
		{a, of(9, 12, 7, []int{3, 4}, nil, nil), false},
		{a, of(9, 12, 7, []int{3, 4}, nil, []int{5, 5}), false},
		{a, of(9, 12, 7, []int{3}, nil, []int{5}), false},
	} {
		if Same(c.a, c.b) != c.want || Same(c.b, c.a) != c.want {
			t.Errorf("Same of %s and %s: %v, and turned about: %v", show(c.a), show(c.b), Same(c.a, c.b), Same(c.b, c.a))
		}
	}
}

// TestSameOfManifestsThatMayNotBe asks no more of these than of others.
func TestSameOfManifestsThatMayNotBe(t *testing.T) {
	l := wrong()
	for i, a := range l {
		for _, b := range l[i:] {
			same(t, a, b)
		}
		if !Same(a, taken(a)) {
			t.Fatalf("Same of %s and itself: false", show(a))
		}
	}
	if !Same(of(9, 0, 0, make([][]int, 300)...), of(9, 0, 0)) {
		t.Error("Same of 300 empty levels and none: false")
	}
}

// few is all lists of up to n numbers below an end, in any order, each as often as there is room.
func few(n, end int) [][]int {
	all := [][]int{nil}
	for at := 0; n > 0; n-- {
		for stop := len(all); at < stop; at++ {
			for v := range end {
				all = append(all, append(slices.Clone(all[at]), v))
			}
		}
	}
	return all
}

// each calls with all levels whose lists are some of these, n of them.
func each(lists [][]int, n int, call func(levels [][]int)) {
	levels := make([][]int, n)
	var fill func(i int)
	fill = func(i int) {
		if i == n {
			call(levels)
			return
		}
		for _, one := range lists {
			levels[i] = one
			fill(i + 1)
		}
	}
	fill(0)
}

// short is all manifests of so few numbers, of which many may not be.
func short() []api.Manifest {
	var l []api.Manifest
	for levels, lists := range [][][]int{nil, few(3, 3), few(2, 3), few(1, 2), few(1, 2), few(1, 2), few(1, 1)} {
		each(lists, levels, func(some [][]int) {
			for next := range 4 {
				l = append(l, taken(of(next, 1, 2, some...)))
			}
		})
	}
	return l
}

func TestAllShortManifests(t *testing.T) {
	l := short()
	for _, m := range l {
		valid(t, m)
		if s := puts(t, m); s != "" {
			gets(t, s, bare(m))
		}
	}
	r := rand.New(rand.NewSource(228))
	for range 200000 {
		same(t, l[r.Intn(len(l))], l[r.Intn(len(l))])
	}
}

// P22.2

func TestPut(t *testing.T) {
	for _, c := range []struct {
		m    api.Manifest
		want string
	}{
		{api.Manifest{}, "imap" + strings.Repeat("\x00", 17) + "\xd6\x5f\x56\x74"},
		{of(0, 0, 0, nil, nil, []int{}), "imap" + strings.Repeat("\x00", 17) + "\xd6\x5f\x56\x74"},
		{of(7, 4096, 0x0102030405060708, []int{3, 4}, []int{5}), "imap\x00\x00\x00\x07\x00\x00\x10\x00\x01\x02\x03\x04\x05\x06\x07\x08\x02\x02\x00\x00\x00\x03\x00\x00\x00\x04\x01\x00\x00\x00\x05\x29\x37\xbb\xf5"},
		{of(1000000, 2147483647, math.MaxUint64, nil, []int{999999}, nil), sealed("imap\x00\x0f\x42\x40\x7f\xff\xff\xff\xff\xff\xff\xff\xff\xff\xff\xff\x02\x00\x01\x00\x0f\x42\x3f")},
		{of(1, 12, 1, nil, nil, nil, nil, []int{0}), sealed("imap\x00\x00\x00\x01\x00\x00\x00\x0c\x00\x00\x00\x00\x00\x00\x00\x01\x05\x00\x00\x00\x00\x01\x00\x00\x00\x00")},
	} {
		if s, e := Put(c.m); s != c.want || e != api.OK {
			t.Errorf("Put of %s: %x, %v, not %x", show(c.m), s, e, c.want)
		}
		if m, e := Get(c.want); !equal(m, bare(c.m)) || e != api.OK {
			t.Errorf("Get of %x: %s, %v, not %s", c.want, show(m), e, show(bare(c.m)))
		}
	}
}

func TestPutOfEdges(t *testing.T) {
	for _, m := range edges() {
		if puts(t, m) == "" {
			t.Fatalf("Put of %s: nothing", show(m))
		}
	}
	for levels := 1; levels <= 5; levels++ {
		if s := puts(t, of(40, 0, 0, full(levels)...)); len(s) != 25+levels+40*4 {
			t.Errorf("Put of 40 tables in %d levels: %d bytes", levels, len(s))
		}
	}
}

func TestPutErrors(t *testing.T) {
	for _, m := range wrong() {
		if s, e := Put(m); s != "" || e != api.ErrArg {
			t.Errorf("Put of %s: %q, %v", show(m), s, e)
		}
	}
}

func TestGetOfEdges(t *testing.T) {
	for _, m := range edges() {
		gets(t, laid(bare(m)), bare(m))
	}
}

func TestGetOfWhatIsNoManifest(t *testing.T) {
	isNone(t, "nothing", "")
	isNone(t, "a sum of nothing", sealed(""))
	isNone(t, "the letters", "imap")
	isNone(t, "letters, sealed", sealed("imap"))
	isNone(t, "25 bytes 0", strings.Repeat("\x00", 25))
	for _, m := range []api.Manifest{{}, of(7, 4096, 5, []int{3, 4}, nil, []int{5})} {
		s := unsealed(m)
		isNone(t, "no sum", s)
		isNone(t, "a sum of 0", s+"\x00\x00\x00\x00")
		isNone(t, "a sum of another order", s+string(binary.BigEndian.AppendUint32(nil, crc32.ChecksumIEEE([]byte(s)))))
		isNone(t, "one more byte", sealed(s)+"\x00")
		isNone(t, "one more manifest", sealed(s)+sealed(s))
		isNone(t, "a byte ahead", "\x00"+sealed(s))
		isNone(t, "a manifest, sealed", sealed(sealed(s)))
		for _, letters := range []string{"IMAP", "imaq", "jmap", "mapi", "ptab", "imaP", "\x00\x00\x00\x00"} {
			isNone(t, "the letters "+letters, sealed(letters+s[4:]))
		}
	}
}

// TestGetOfOtherLengths has bytes between the numbers and the sum, or too few; the sum is right.
func TestGetOfOtherLengths(t *testing.T) {
	for _, m := range []api.Manifest{{}, of(1, 0, 0, []int{0}), of(7, 4096, 5, []int{3, 4}, nil, []int{5}), of(40, 9, 9, full(5)...)} {
		s := unsealed(m)
		for more := 1; more < 30; more++ {
			isNone(t, "bytes behind the numbers", sealed(s+strings.Repeat("\x00", more)))
			isNone(t, "bytes behind the numbers", sealed(s+strings.Repeat("\xff", more)))
		}
		for end := range len(s) {
			isNone(t, "too few bytes", sealed(s[:end]))
		}
	}
}

// TestGetOfOtherCounts says that there are more levels, or more tables in one, or fewer; the sum is right.
func TestGetOfOtherCounts(t *testing.T) {
	s := []byte(unsealed(of(7, 4096, 5, []int{3, 4}, []int{1}, []int{5})))
	for _, at := range []int{20, 21, 30, 35} {
		was := s[at]
		for n := range 256 {
			if s[at] = byte(n); s[at] != was {
				isNone(t, "count "+strconv.Itoa(n)+" at "+strconv.Itoa(at), sealed(string(s)))
			}
		}
		s[at] = was
	}
}

// TestGetOfEmptyLevelsAtTheEnd has bytes that say the manifest's numbers, but are not what it is put as.
func TestGetOfEmptyLevelsAtTheEnd(t *testing.T) {
	for n := 1; n < 256; n++ {
		isNone(t, strconv.Itoa(n)+" empty levels", laid(of(9, 12, 7, make([][]int, n)...)))
	}
	for n := 1; n < 255; n++ {
		levels := append([][]int{{3}}, make([][]int, n)...)
		isNone(t, strconv.Itoa(n)+" empty levels behind one", laid(of(9, 12, 7, levels...)))
	}
	gets(t, laid(of(9, 12, 7, nil, nil, nil, nil, []int{3})), of(9, 12, 7, nil, nil, nil, nil, []int{3}))
}

// TestGetOfManifestsThatMayNotBe has all that the bytes have room for; the sum is right.
func TestGetOfManifestsThatMayNotBe(t *testing.T) {
	for _, m := range []api.Manifest{
		of(1000001, 0, 0), of(1<<31, 0, 0), of(1<<32-1, 0, 0), of(1000001, 0, 0, []int{5}),
		of(0, 1<<31, 0), of(0, 1<<32-1, 0), of(9, 1<<31, 0, []int{5}),
		of(1, 0, 0, []int{1}), of(0, 0, 0, []int{0}), of(5, 0, 0, []int{4}, []int{5}), of(1000000, 0, 0, []int{1000000}),
		of(9, 0, 0, []int{1 << 31}), of(9, 0, 0, []int{1<<32 - 1}),
		of(9, 0, 0, []int{1, 1}), of(9, 0, 0, []int{1}, nil, []int{1}), of(9, 0, 0, []int{1, 2}, []int{3, 2}),
		of(99, 0, 0, row(0, 41)), of(99, 0, 0, row(0, 40), nil, nil, nil, []int{40}), of(999, 0, 0, row(0, 255)),
		of(9, 0, 0, []int{1}, []int{2}, []int{3}, []int{4}, []int{5}, []int{6}), of(9, 0, 0, nil, nil, nil, nil, nil, []int{6}),
	} {
		isNone(t, show(m), laid(m))
	}
	many := make([][]int, 255)
	for i := range many {
		many[i] = row(i*255, 255)
	}
	isNone(t, "255 levels of 255 tables", laid(of(1000000, 0, 0, many...)))
}

func TestGetOfNoise(t *testing.T) {
	r := rand.New(rand.NewSource(221))
	for range 20000 {
		b := make([]byte, r.Intn(100))
		r.Read(b)
		if r.Intn(2) == 0 {
			copy(b, "imap\x00\x00\x00\x09\x00")
		}
		isNone(t, "noise", string(b))
	}
}

// TestGetOfSealedNoise has a sum that is right, and numbers that are often small: what is got is held against all that bytes of a manifest may say.
func TestGetOfSealedNoise(t *testing.T) {
	r := rand.New(rand.NewSource(222))
	got := 0
	for range 100000 {
		b := []byte("imap\x00\x00\x00\x09\x00\x00\x00\x0c\x00\x00\x00\x00\x00\x00\x00\x07")
		for range r.Intn(12) {
			if b = append(b, byte(r.Intn(3))); r.Intn(2) == 0 {
				b = append(b, 0, 0, 0, byte(r.Intn(10)))
			}
		}
		s := sealed(string(b))
		m, e := Get(s)
		if e != api.OK {
			isNone(t, "sealed noise", s)
			continue
		}
		got++
		if laid(m) != s || !mayBe(m) || len(bare(m).Levels) != len(m.Levels) {
			t.Fatalf("Get of %q: %s", s, show(m))
		}
	}
	if got < 100 {
		t.Errorf("of sealed noise %d are manifests", got)
	}
}

// The lists that are told, and those that are handed in.

// TestManifestsThatShareMemory has each level stand right ahead of the next one, with room behind it that is the next one's.
func TestManifestsThatShareMemory(t *testing.T) {
	memory := row(0, 30)
	room := make([][]int, 8)
	levels := append(room[:0], memory[:3], memory[3:5], memory[5:5], memory[5:9], memory[9:9])
	m := of(30, 12, 7, levels...)
	for range 3 {
		valid(t, m)
		gets(t, puts(t, m), bare(m))
		same(t, m, of(30, 12, 7, levels[:4]...))
		same(t, m, of(30, 12, 7, levels[:3]...))
	}
	if !slices.Equal(memory, row(0, 30)) || len(room[3]) != 4 || len(room[4]) != 0 || room[5] != nil {
		t.Error("what stands behind levels is changed")
	}
}

// TestGetTellsListsOfItsOwn lays other numbers over what was told, and over what was put, and asks again.
func TestGetTellsListsOfItsOwn(t *testing.T) {
	r := rand.New(rand.NewSource(223))
	for range 500 {
		m := drawn(r, 5)
		was := bare(taken(m))
		s := puts(t, m)
		for i := range m.Levels {
			for k := range m.Levels[i] {
				m.Levels[i][k] = -77
			}
		}
		got := gets(t, s, was)
		for i := range got.Levels {
			room := got.Levels[i][:cap(got.Levels[i])]
			for k := range room {
				room[k] = -77
			}
			copy(room, was.Levels[i])
			stays(t, got, was)
			_ = append(got.Levels[i], -77)
			stays(t, got, was)
		}
		for i := range got.Levels {
			for k := range got.Levels[i] {
				got.Levels[i][k] = -77
			}
			got.Levels[i] = nil
		}
		gets(t, s, was)
	}
}

// P22.3

func TestWhatIsPutIsGot(t *testing.T) {
	r := rand.New(rand.NewSource(224))
	all := edges()
	for range 5000 {
		all = append(all, drawn(r, 5))
	}
	for _, m := range all {
		got := gets(t, puts(t, m), bare(m))
		if !Same(got, m) || !Same(m, got) || !Valid(got) {
			t.Fatalf("%s is put, and got: %s", show(m), show(got))
		}
	}
}

func TestWhatIsGotIsPutToTheSameBytes(t *testing.T) {
	r := rand.New(rand.NewSource(225))
	all := edges()
	for range 5000 {
		all = append(all, drawn(r, 5))
	}
	for _, m := range all {
		s := laid(bare(m))
		if again, e := Put(gets(t, s, bare(m))); again != s || e != api.OK {
			t.Fatalf("the bytes of %s are got, and put: %q, %v, not %q", show(m), again, e, s)
		}
	}
}

// TestSameBytes has manifests that are the same put to the same bytes, and others to others.
func TestSameBytes(t *testing.T) {
	var may []api.Manifest
	var bytes []string
	for _, m := range short() {
		if Valid(m) {
			may, bytes = append(may, m), append(bytes, puts(t, m))
		}
	}
	for i := range may {
		for k := range may {
			if (bytes[i] == bytes[k]) != Same(may[i], may[k]) {
				t.Fatalf("%s and %s are put to %q and %q; Same: %v", show(may[i]), show(may[k]), bytes[i], bytes[k], Same(may[i], may[k]))
			}
		}
	}
}

// ends is manifests of few and of many bytes.
func ends() []api.Manifest {
	return []api.Manifest{{}, of(1, 0, 0, []int{0}), of(7, 4096, 5, []int{3, 4}, nil, []int{5}), of(40, 2147483647, math.MaxUint64, full(5)...)}
}

func TestOneByteThatIsAnotherOne(t *testing.T) {
	for _, m := range ends() {
		s := []byte(puts(t, m))
		for i := range s {
			was := s[i]
			for b := range 256 {
				if s[i] = byte(b); s[i] != was {
					isNone(t, "byte "+strconv.Itoa(i)+" as another one", string(s))
				}
			}
			s[i] = was
		}
	}
}

func TestOneByteOfSomeThatIsAnotherOne(t *testing.T) {
	r := rand.New(rand.NewSource(226))
	for range 20000 {
		s := []byte(puts(t, drawn(r, 5)))
		s[r.Intn(len(s))] ^= byte(1 + r.Intn(255))
		isNone(t, "one byte as another one", string(s))
	}
}

func TestCutOff(t *testing.T) {
	r := rand.New(rand.NewSource(227))
	all := ends()
	for range 300 {
		all = append(all, drawn(r, 5))
	}
	for _, m := range all {
		s := puts(t, m)
		for end := range len(s) {
			isNone(t, "a manifest cut off", s[:end])
		}
	}
}

// TestExample is the chapter's own.
func TestExample(t *testing.T) {
	if s, e := Put(api.Manifest{}); len(s) != 25 || e != api.OK {
		t.Errorf("Put of the zero manifest: %q, %v", s, e)
	}
	if m, e := Get(""); e != api.ErrTable || !equal(m, api.Manifest{}) {
		t.Errorf("Get of nothing: %s, %v", show(m), e)
	}
	if Valid(of(1, 0, 0, []int{1})) {
		t.Error("a manifest with Next 1 and a table 1 may be")
	}
}

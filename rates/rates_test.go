package rates

import (
	"math"
	"math/big"
	"math/rand"
	"slices"
	"testing"

	"annalist/api"
)

// The bounds as the chapter names them.
const (
	usualProbes = 4
	mostProbes  = 16
	mostEntries = 10000
	mostPages   = 500
)

// of is the number of some bits.
func of(b uint64) float64 { return math.Float64frombits(b) }

// below and above are the numbers next to one.
func below(f float64) float64 { return math.Nextafter(f, math.Inf(-1)) }
func above(f float64) float64 { return math.Nextafter(f, math.Inf(1)) }

// power is one half, taken k times with itself.
func power(k int) float64 { return math.Ldexp(1, -k) }

// rising is rates in their order, with all edges; both noughts are one rate.
func rising() []float64 {
	l := []float64{
		math.Inf(-1), -math.MaxFloat64, -1, -0.5, -0.01, -math.SmallestNonzeroFloat64, of(1 << 63), 0,
		math.SmallestNonzeroFloat64, of(0x000fffffffffffff), of(0x0010000000000000), 1e-300, 1e-9, 1e-5, 0.001, 0.01, 0.05, 0.1, 0.2, 0.3, 0.49, 0.7, 0.99, 2, 1e300, math.MaxFloat64, math.Inf(1),
	}
	for k := range mostProbes + 3 {
		l = append(l, below(power(k)), power(k), above(power(k)))
	}
	r := rand.New(rand.NewSource(5))
	for range 2000 {
		l = append(l, math.Ldexp(r.Float64(), -r.Intn(20)))
		if f := of(r.Uint64()); f == f {
			l = append(l, f)
		}
	}
	slices.Sort(l)
	return l
}

// numbers are whole numbers in their order: edges, and some about them.
func numbers() []int {
	l := []int{math.MinInt, math.MinInt + 1, math.MinInt/2 - 1, math.MinInt / 2, math.MinInt/3 - 1, math.MinInt / 3, math.MinInt/48 - 1, math.MinInt32, -10000, -16, -2, math.MaxInt32, math.MaxInt / 48, math.MaxInt/48 + 1, math.MaxInt / 3, math.MaxInt/3 + 1, math.MaxInt - 1, math.MaxInt}
	for n := -1; n <= 400; n++ {
		l = append(l, n)
	}
	for n := 401; n < mostEntries+500; n += 97 {
		l = append(l, n)
	}
	for n := mostEntries - 40; n <= mostEntries+2; n++ {
		l = append(l, n)
	}
	slices.Sort(l)
	return l
}

// P5.1

func TestProbes(t *testing.T) {
	for _, c := range []struct {
		rate float64
		want int
	}{
		{1, 1},
		{0.5, 1},
		{0.49, 2},
		{0.01, 7},
		{0.25, 2},
		{0.1, 4},
		{0.05, 5},
		{0.001, 10},
		{0.0001, 14},
		{0.00004, 15},
		{1.0 / (1 << 15), 15},
		{1.0 / (1 << 16), 16},
		{1.0 / (1 << 17), 16},
		{1e-300, 16},
		{math.SmallestNonzeroFloat64, 16},
		{0, 16},
		{of(1 << 63), 16},
		{-math.SmallestNonzeroFloat64, 16},
		{-0.5, 16},
		{-1, 16},
		{-math.MaxFloat64, 16},
		{math.Inf(-1), 16},
		{2, 1},
		{math.MaxFloat64, 1},
		{math.Inf(1), 1},
	} {
		if got := Probes(c.rate); got != c.want {
			t.Errorf("Probes(%v) = %d, want %d", c.rate, got, c.want)
		}
	}
}

func TestProbesAtEachHalf(t *testing.T) {
	for k := 1; k <= mostProbes; k++ {
		next := min(k+1, mostProbes)
		if got := Probes(power(k)); got != k {
			t.Errorf("Probes of the half taken %d times = %d", k, got)
		}
		if got := Probes(above(power(k))); got != k {
			t.Errorf("Probes above the half taken %d times = %d", k, got)
		}
		if got := Probes(below(power(k))); got != next {
			t.Errorf("Probes below the half taken %d times = %d, want %d", k, got, next)
		}
	}
}

func TestProbesOfNoNumber(t *testing.T) {
	for _, b := range []uint64{0x7ff8000000000000, 0x7ff8000000000001, 0x7ff0000000000001, 0xfff8000000000000, 0xfff0000000000001, math.MaxUint64, math.MaxInt64} {
		if got := Probes(of(b)); got != usualProbes {
			t.Errorf("Probes of the bits %x = %d, want %d", b, got, usualProbes)
		}
	}
}

// wantProbes is the least of all that are small enough, by numbers that are never rounded.
func wantProbes(rate float64) int {
	if math.IsInf(rate, 0) {
		if rate > 0 {
			return 1
		}
		return mostProbes
	}
	r := new(big.Rat).SetFloat64(rate)
	for k := 1; k <= mostProbes; k++ {
		if big.NewRat(1, 1<<k).Cmp(r) <= 0 {
			return k
		}
	}
	return mostProbes
}

func TestProbesAgainstFractions(t *testing.T) {
	for _, rate := range rising() {
		if got, want := Probes(rate), wantProbes(rate); got != want {
			t.Errorf("Probes(%v) = %d, want %d", rate, got, want)
		}
	}
}

// P5.2

func TestPages(t *testing.T) {
	for _, c := range []struct{ entries, probes, want int }{
		{0, 4, 1},
		{80, 4, 1},
		{81, 4, 2},
		{-1, -1, 1},
		{1, 1, 1},
		// With one probe, 320 entries have 480 bits, 321 have 481 and a half.
		{320, 1, 1},
		{321, 1, 2},
		// 640 entries have 960 bits, which is two pages; 641 have 961 and a half.
		{640, 1, 2},
		{641, 1, 3},
		// No probe is one probe.
		{320, 0, 1},
		{321, 0, 2},
		{321, -7, 2},
		{10000, 0, 32},
		{10000, math.MinInt, 32},
		// More probes than there may be are as many as may be.
		{20, 16, 1},
		{21, 16, 2},
		{20, 17, 1},
		{21, 17, 2},
		{20, math.MaxInt, 1},
		{10000, 1, 32},
		{10000, 4, 125},
		{10000, 15, 469},
		{10000, 16, 500},
		{9980, 16, 499},
		{9981, 16, 500},
		{9999, 16, 500},
		{10001, 16, 500},
		{20000, 4, 125},
		{math.MaxInt, 1, 32},
		{math.MaxInt, 4, 125},
		{math.MaxInt, math.MaxInt, 500},
		{math.MinInt, 16, 1},
		{math.MinInt, math.MaxInt, 1},
		{math.MaxInt, math.MinInt, 32},
		{-81, 4, 1},
		{-81, -4, 1},
		// A product that runs over is no room.
		{math.MinInt/3 - 1, 1, 1},
		{math.MinInt/48 - 1, 16, 1},
	} {
		if got := Pages(c.entries, c.probes); got != c.want {
			t.Errorf("Pages(%d, %d) = %d, want %d", c.entries, c.probes, got, c.want)
		}
	}
}

// wantPages lays page behind page until all bits have room.
func wantPages(entries, probes int) int {
	n, k := entries, probes
	if n < 0 {
		n = 0
	}
	if n > mostEntries {
		n = mostEntries
	}
	if k < 1 {
		k = 1
	}
	if k > mostProbes {
		k = mostProbes
	}
	bits := n*k + n*k/2
	pages := 1
	for room := 480; room < bits; room += 480 {
		pages++
	}
	return pages
}

func TestPagesAgainstRoom(t *testing.T) {
	for _, n := range numbers() {
		for _, k := range numbers()[:40] {
			if got, want := Pages(n, k), wantPages(n, k); got != want {
				t.Fatalf("Pages(%d, %d) = %d, want %d", n, k, got, want)
			}
		}
		for _, k := range []int{math.MaxInt32, math.MaxInt - 1, math.MaxInt} {
			if got, want := Pages(n, k), wantPages(n, k); got != want {
				t.Fatalf("Pages(%d, %d) = %d, want %d", n, k, got, want)
			}
		}
	}
}

// P5.3

func TestGreaterRateNoMoreProbes(t *testing.T) {
	last := api.MaxProbes
	seen := make([]int, mostProbes+1)
	for _, rate := range rising() {
		got := Probes(rate)
		if got < 1 || got > mostProbes {
			t.Fatalf("Probes(%v) = %d", rate, got)
		}
		if got > last {
			t.Fatalf("Probes(%v) = %d, and of a lesser rate %d", rate, got, last)
		}
		last = got
		seen[got]++
	}
	for k, n := range seen[1:] {
		if n == 0 {
			t.Errorf("no rate asks for %d probes", k+1)
		}
	}
}

func TestMoreEntriesNoFewerPages(t *testing.T) {
	for k := -1; k <= mostProbes+1; k++ {
		last := 1
		for _, n := range numbers() {
			got := Pages(n, k)
			if got < last || got > mostPages {
				t.Fatalf("Pages(%d, %d) = %d, and of fewer entries %d", n, k, got, last)
			}
			last = got
		}
	}
}

func TestMoreProbesNoFewerPages(t *testing.T) {
	for _, n := range numbers() {
		last := 1
		for _, k := range numbers() {
			got := Pages(n, k)
			if got < last || got > mostPages {
				t.Fatalf("Pages(%d, %d) = %d, and of fewer probes %d", n, k, got, last)
			}
			last = got
		}
	}
}

func TestAllPageCounts(t *testing.T) {
	seen := make([]bool, mostPages+1)
	for n := range mostEntries + 1 {
		seen[Pages(n, mostProbes)] = true
	}
	for pages, ok := range seen[1:] {
		if !ok {
			t.Errorf("no entries have %d pages", pages+1)
		}
	}
}

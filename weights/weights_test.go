package weights

import (
	"math"
	"math/big"
	"math/rand"
	"slices"
	"testing"

	"annalist/api"
)

// of is the number of some bits.
func of(b uint64) float64 { return math.Float64frombits(b) }

// minus is 0 with a sign, which Go has no constant for.
func minus() float64 { return of(1 << 63) }

var (
	down = math.Inf(-1)
	up   = math.Inf(1)
)

// rising is numbers in the order of their keys, as the chapter names it: with all edges of each class.
func rising() []float64 {
	return []float64{
		of(math.MaxUint64), of(0xfff8000000000001), of(0xfff8000000000000), of(0xfff0000000000001),
		down,
		-math.MaxFloat64, -1e300, -1e16, -2, of(0xbff0000000000001), -1, of(0xbfefffffffffffff), -0.5, of(0x8010000000000000), of(0x800fffffffffffff), of(0x8000000000000002), -math.SmallestNonzeroFloat64,
		minus(),
		0,
		math.SmallestNonzeroFloat64, of(2), of(0x000fffffffffffff), of(0x0010000000000000), 0.5, of(0x3fefffffffffffff), 1, of(0x3ff0000000000001), 2, 1e16, 1e300, math.MaxFloat64,
		up,
		of(0x7ff0000000000001), of(0x7ff8000000000000), of(0x7ff8000000000001), of(math.MaxInt64),
	}
}

// anyBits are edges, single bits, and some of no pattern.
func anyBits() []uint64 {
	var l []uint64
	for _, f := range rising() {
		l = append(l, math.Float64bits(f))
	}
	for i := range 64 {
		l = append(l, 1<<i, ^uint64(1<<i))
	}
	r := rand.New(rand.NewSource(5))
	for range 2000 {
		l = append(l, r.Uint64())
	}
	return l
}

// some is n numbers of no pattern, that are numbers; small ones are near to each other, so that sums of them are rounded often.
func some(r *rand.Rand, n int, small bool) []float64 {
	var l []float64
	for len(l) < n {
		f := of(r.Uint64())
		if small {
			f = math.Ldexp(float64(r.Int63()-r.Int63()), r.Intn(60)-90)
		}
		if f == f {
			l = append(l, f)
		}
	}
	return l
}

// P4.1

func TestKey(t *testing.T) {
	for _, c := range []struct {
		f    float64
		want uint64
	}{
		{0, 1 << 63},
		{minus(), 1<<63 - 1},
		{1, 13830554455654793216},
		{-1, 0x400fffffffffffff},
		{1.5, 0xbff8000000000000},
		{-2, 0x3fffffffffffffff},
		{0.1, 0xbfb999999999999a},
		{-0.1, 0x4046666666666665},
		{math.SmallestNonzeroFloat64, 0x8000000000000001},
		{-math.SmallestNonzeroFloat64, 0x7ffffffffffffffe},
		{of(0x0010000000000000), 0x8010000000000000},
		{math.MaxFloat64, 0xffefffffffffffff},
		{-math.MaxFloat64, 0x0010000000000000},
		{up, 0xfff0000000000000},
		{down, 0x000fffffffffffff},
		{of(0x7ff0000000000001), 0xfff0000000000001},
		{of(0xfff0000000000001), 0x000ffffffffffffe},
		{of(0x7ff8000000000001), 0xfff8000000000001},
		{of(0xfff8000000000001), 0x0007fffffffffffe},
		{of(math.MaxInt64), math.MaxUint64},
		{of(math.MaxUint64), 0},
	} {
		if k := Key(c.f); k != c.want {
			t.Errorf("Key of the bits %x: %x, not %x", math.Float64bits(c.f), k, c.want)
		}
		if b := math.Float64bits(Back(c.want)); b != math.Float64bits(c.f) {
			t.Errorf("Back(%x): the bits %x, not %x", c.want, b, math.Float64bits(c.f))
		}
	}
}

func TestSameAndLess(t *testing.T) {
	l := rising()
	for i, a := range l {
		for j, b := range l {
			if same := Same(a, b); same != (i == j) {
				t.Errorf("Same of the bits %x and %x: %t", math.Float64bits(a), math.Float64bits(b), same)
			}
			if less := Less(a, b); less != (i < j) {
				t.Errorf("Less of the bits %x and %x: %t", math.Float64bits(a), math.Float64bits(b), less)
			}
		}
	}
}

// P4.2

func TestClass(t *testing.T) {
	for _, c := range []struct {
		bits uint64
		want int
	}{
		{0, api.WeNought},
		{1 << 63, api.WeNought},
		{1, api.WePlus},
		{1<<63 | 1, api.WeMinus},
		{0x000fffffffffffff, api.WePlus},
		{0x800fffffffffffff, api.WeMinus},
		{0x0010000000000000, api.WePlus},
		{0x8010000000000000, api.WeMinus},
		{0x3ff0000000000000, api.WePlus},
		{0xbff0000000000000, api.WeMinus},
		{0x7fefffffffffffff, api.WePlus},
		{0xffefffffffffffff, api.WeMinus},
		{0x7ff0000000000000, api.WeUp},
		{0xfff0000000000000, api.WeDown},
		{0x7ff0000000000001, api.WeNaN},
		{0xfff0000000000001, api.WeNaN},
		{0x7ff8000000000000, api.WeNaN},
		{0xfff8000000000000, api.WeNaN},
		{math.MaxInt64, api.WeNaN},
		{math.MaxUint64, api.WeNaN},
	} {
		if class := Class(of(c.bits)); class != c.want {
			t.Errorf("Class of the bits %x: %d, not %d", c.bits, class, c.want)
		}
	}
}

// classOf is a class by the bits alone, as the standard has them: a sign, eleven bits of how large, and the others.
func classOf(b uint64) int {
	size, rest, sign := b>>52&2047, b&(1<<52-1), b>>63 == 1
	pick := func(with, without int) int {
		if sign {
			return with
		}
		return without
	}
	switch {
	case size == 2047 && rest != 0:
		return api.WeNaN
	case size == 2047:
		return pick(api.WeDown, api.WeUp)
	case size == 0 && rest == 0:
		return api.WeNought
	}
	return pick(api.WeMinus, api.WePlus)
}

func TestClassByBits(t *testing.T) {
	for _, b := range anyBits() {
		if class, want := Class(of(b)), classOf(b); class != want {
			t.Errorf("Class of the bits %x: %d, not %d", b, class, want)
		}
	}
}

// P4.3

func TestSum(t *testing.T) {
	for _, c := range []struct {
		l    []float64
		want uint64
	}{
		{nil, 0},
		{[]float64{}, 0},
		{[]float64{0}, 0},
		{[]float64{minus()}, 0},
		{[]float64{minus(), minus()}, 0},
		{[]float64{-1, 1}, 0},
		{[]float64{1, -1, minus()}, 0},
		{[]float64{-1}, 0xbff0000000000000},
		{[]float64{0.1, 0.2, 0.3}, 0x3fe3333333333334},
		{[]float64{0.3, 0.2, 0.1}, 0x3fe3333333333333},
		{[]float64{1, 1e100, 1, -1e100}, 0},
		{[]float64{1, 1, 1e100, -1e100, 1}, 0x3ff0000000000000},
		{[]float64{1 << 53, 1}, 0x4340000000000000},
		{[]float64{1<<53 + 2, 1}, 0x4340000000000002},
		{[]float64{1 << 53, 1, 1}, 0x4340000000000000},
		{[]float64{1, 1, 1 << 53}, 0x4340000000000001},
		{[]float64{math.SmallestNonzeroFloat64, math.SmallestNonzeroFloat64}, 2},
		{[]float64{of(0x0010000000000000), of(1<<63 | 1)}, 0x000fffffffffffff},
		{[]float64{math.MaxFloat64, math.Ldexp(1, 969)}, 0x7fefffffffffffff},
		{[]float64{math.MaxFloat64, math.Ldexp(1, 970)}, 0x7ff0000000000000},
		{[]float64{1e308, 1e308, -1e308}, 0x7ff0000000000000},
		{[]float64{-1e308, -1e308, 1e308}, 0xfff0000000000000},
		{[]float64{1e308, -1e308, 1e308}, 0x7fe1ccf385ebc8a0},
		{[]float64{up, up, -1}, 0x7ff0000000000000},
		{[]float64{1, down, 1e308}, 0xfff0000000000000},
	} {
		if b := math.Float64bits(Sum(c.l)); b != c.want {
			t.Errorf("Sum(%v): the bits %x, not %x", c.l, b, c.want)
		}
	}
}

// summed is a sum with numbers that have room for all bits of both, rounded once at each step, to nearest, ties to even.
func summed(l []float64) float64 {
	sum := 0.0
	for _, f := range l {
		if math.IsInf(sum, 0) || math.IsInf(f, 0) {
			sum += f
			continue
		}
		whole := new(big.Float).SetPrec(2200)
		sum, _ = whole.Add(big.NewFloat(sum), big.NewFloat(f)).Float64()
		if sum == 0 {
			sum = 0
		}
	}
	return sum
}

func TestSumAsTold(t *testing.T) {
	r := rand.New(rand.NewSource(6))
	for n := range 400 {
		l := some(r, n%40, n%2 == 0)
		before := slices.Clone(l)
		got, want := Sum(l), summed(l)
		if got != want && (got == got || want == want) {
			t.Fatalf("Sum(%v): %v, not %v", l, got, want)
		}
		if !slices.Equal(l, before) {
			t.Fatalf("Sum changed %v to %v", before, l)
		}
	}
}

func TestEnds(t *testing.T) {
	odd, oddMinus := of(0x7ff8000000000007), of(0xfff8000000000007)
	for _, c := range []struct {
		l           []float64
		least, most float64
		ok          bool
	}{
		{nil, 0, 0, false},
		{[]float64{}, 0, 0, false},
		{[]float64{5}, 5, 5, true},
		{[]float64{-5}, -5, -5, true},
		{[]float64{0}, 0, 0, true},
		{[]float64{minus()}, minus(), minus(), true},
		{[]float64{1, 0, minus()}, minus(), 1, true},
		{[]float64{0, minus()}, minus(), 0, true},
		{[]float64{minus(), 0}, minus(), 0, true},
		{[]float64{3, 1, 2}, 1, 3, true},
		{[]float64{1, 2, 3}, 1, 3, true},
		{[]float64{3, 2, 1}, 1, 3, true},
		{[]float64{2, 3, 1}, 1, 3, true},
		{[]float64{2, 2, 2}, 2, 2, true},
		{[]float64{-3, -1, -2}, -3, -1, true},
		{[]float64{up, 1, down}, down, up, true},
		{[]float64{odd}, odd, odd, true},
		{[]float64{1, odd, 2}, 1, odd, true},
		{[]float64{odd, up, 2}, 2, odd, true},
		{[]float64{1, oddMinus, 2}, oddMinus, 2, true},
		{[]float64{oddMinus, odd, down, up}, oddMinus, odd, true},
	} {
		least, most, ok := Ends(c.l)
		if !Same(least, c.least) || !Same(most, c.most) || ok != c.ok {
			t.Errorf("Ends(%v): %v, %v, %t, not %v, %v, %t", c.l, least, most, ok, c.least, c.most, c.ok)
		}
	}
}

func TestEndsOfMany(t *testing.T) {
	r := rand.New(rand.NewSource(7))
	all := rising()
	for range 3000 {
		l := make([]float64, 1+r.Intn(8))
		low, high := len(all), -1
		for i := range l {
			at := r.Intn(len(all))
			l[i] = all[at]
			low, high = min(low, at), max(high, at)
		}
		least, most, ok := Ends(l)
		if !Same(least, all[low]) || !Same(most, all[high]) || !ok {
			t.Fatalf("Ends(%v): %v, %v, %t", l, least, most, ok)
		}
	}
}

func TestEndsLeaveTheList(t *testing.T) {
	l := rising()
	slices.Reverse(l)
	Ends(l)
	want := rising()
	slices.Reverse(want)
	if !slices.EqualFunc(l, want, Same) {
		t.Errorf("%v", l)
	}
}

// P4.4

func TestKeysAndNumbers(t *testing.T) {
	for _, b := range anyBits() {
		if got := math.Float64bits(Back(Key(of(b)))); got != b {
			t.Errorf("behind Key and Back %x is %x", b, got)
		}
		if got := Key(Back(b)); got != b {
			t.Errorf("behind Back and Key %x is %x", b, got)
		}
	}
}

// The two numbers that are next to each other at each bound of two classes have keys that are next to each other: so nothing else stands between them.
func TestOrderOfClasses(t *testing.T) {
	bounds := []struct{ last, first uint64 }{
		{0xfff0000000000001, 0xfff0000000000000},
		{0xfff0000000000000, 0xffefffffffffffff},
		{0x8000000000000001, 0x8000000000000000},
		{0x8000000000000000, 0},
		{0, 1},
		{0x7fefffffffffffff, 0x7ff0000000000000},
		{0x7ff0000000000000, 0x7ff0000000000001},
	}
	for _, c := range bounds {
		if last, first := Key(of(c.last)), Key(of(c.first)); last+1 != first {
			t.Errorf("the bits %x and %x: keys %x and %x", c.last, c.first, last, first)
		}
	}
}

func TestLessAndClasses(t *testing.T) {
	l := anyBits()
	r := rand.New(rand.NewSource(8))
	for range 200000 {
		a, b := of(l[r.Intn(len(l))]), of(l[r.Intn(len(l))])
		if a != a || b != b {
			continue
		}
		if Less(a, b) && Class(a) > Class(b) {
			t.Fatalf("%v is less than %v, its class is above", a, b)
		}
		noughts := a == 0 && b == 0
		if !noughts && Less(a, b) != (a < b) {
			t.Fatalf("Less(%v, %v): %t", a, b, Less(a, b))
		}
	}
}

func TestSumsThatAreNone(t *testing.T) {
	r := rand.New(rand.NewSource(9))
	nans := []float64{of(0x7ff0000000000001), of(0xfff0000000000001), math.NaN(), of(math.MaxUint64)}
	for range 1000 {
		l := append(some(r, r.Intn(8), true), nans[r.Intn(len(nans))])
		r.Shuffle(len(l), func(i, j int) { l[i], l[j] = l[j], l[i] })
		if sum := Sum(l); Class(sum) != api.WeNaN {
			t.Fatalf("Sum(%v): %v", l, sum)
		}
		l = append(some(r, r.Intn(8), true), up, down)
		r.Shuffle(len(l), func(i, j int) { l[i], l[j] = l[j], l[i] })
		if sum := Sum(l); Class(sum) != api.WeNaN {
			t.Fatalf("Sum(%v): %v", l, sum)
		}
	}
}

func TestOrderCounts(t *testing.T) {
	a, b := Sum([]float64{1e16, 1, -1e16}), Sum([]float64{1e16, -1e16, 1})
	if a != 0 || b != 1 {
		t.Errorf("%v, %v", a, b)
	}
	a, b = Sum([]float64{1e308, 1e308, -1e308, -1e308}), Sum([]float64{1e308, -1e308, 1e308, -1e308})
	if !Same(a, up) || !Same(b, 0) {
		t.Errorf("%v, %v", a, b)
	}
}

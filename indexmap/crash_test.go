package indexmap

import (
	"fmt"
	"math/rand"
	"slices"
	"testing"

	"annalist/api"
	"annalist/disk"
)

// state is what Load tells: a manifest, or an error.
type state struct {
	told string
	e    api.Errno
}

// now is what Load tells of a disk, there that of one on which a manifest lies.
func now(d *disk.Disk) state {
	m, e := Load(d)
	return state{show(m), e}
}

func there(m api.Manifest) state { return state{show(bare(m)), api.OK} }

// keeps are how many bytes of each file are kept in a crash.
func keeps(r *rand.Rand, most int) []int {
	l := make([]int, r.Intn(6))
	for i := range l {
		l[i] = r.Intn(most+3) - 1
	}
	return l
}

// P23.4

// TestSwapIsWholeOrNone lets each change of a Swap fail, with each number of bytes kept, on a disk with and without a manifest, or a spoilt one, and with what another Swap left.
func TestSwapIsWholeOrNone(t *testing.T) {
	for _, m := range []api.Manifest{{}, of(7, 4096, 1, []int{3, 4}, []int{5}), of(9, 300, 1<<60, []int{7, 8}, nil, []int{1}, nil)} {
		s := laid(bare(m))
		for _, files := range []map[string]string{
			{}, {"map": laid(of(6, 5, 4, []int{1}))}, {"map": laid(of(6, 5, 4, row(0, 6)))}, {"map": s}, {"map": s[1:]}, {"map": ""},
		} {
			for _, lost := range []string{"", "abc", s, laid(of(1, 2, 3))} {
				for k := range 7 {
					for n := range len(s) + 1 {
						d := made(t, 60000, files)
						if lost != "" {
							lays(t, d, "new", lost)
						}
						crashes(t, fmt.Sprintf("the change %d fails, %d bytes are kept", k, n), d, m, k, slices.Repeat([]int{n}, 3))
					}
				}
			}
		}
	}
}

// crashes lets a disk go down behind so many changes of a Swap, at the latest behind its end, and holds what is there then against what was, and the new manifest; then the new one is swapped in, with what the crash left.
func crashes(t *testing.T, what string, d *disk.Disk, m api.Manifest, k int, keep []int) {
	t.Helper()
	was := now(d)
	is(t, "Fail", d.Fail(k, keep), api.OK)
	e := Swap(d, m)
	if e != api.OK && e != api.ErrDown {
		t.Fatalf("%s: Swap: %v", what, e)
	}
	if d.Up() != (e == api.OK) {
		t.Fatalf("%s: Swap: %v, but the disk is up: %v", what, e, d.Up())
	}
	if d.Up() {
		if got := now(d); got != there(m) {
			t.Fatalf("%s: Swap was OK, but ahead of the crash there is %v, not %v", what, got, there(m))
		}
		is(t, "Crash", d.Crash(keep), api.OK)
	}
	is(t, "Start", d.Start(), api.OK)
	got := now(d)
	if got != there(m) && (e == api.OK || got != was) {
		t.Fatalf("%s: Swap of %s: %v; there was %v, there is %v", what, show(m), e, was, got)
	}
	swaps(t, what+", again", d, m, api.OK)
	if got := now(d); got != there(m) {
		t.Fatalf("%s, again: there is %v, not %v", what, got, there(m))
	}
}

// TestFourChangesMakeASwap goes down with each of them, and with the last one the old manifest is there still: the new one comes with the renaming, and no later.
func TestFourChangesMakeASwap(t *testing.T) {
	old, m := of(6, 5, 4, []int{1}), of(7, 4096, 1, []int{3, 4}, []int{5})
	for _, lost := range []bool{false, true} {
		many := 4
		if lost {
			many = 5
		}
		for k := range many + 1 {
			d := made(t, 60000, map[string]string{"map": laid(old)})
			if lost {
				lays(t, d, "new", "abc")
			}
			is(t, "Fail", d.Fail(k, slices.Repeat([]int{1000}, 3)), api.OK)
			want, e := old, api.ErrDown
			if k == many {
				want, e = m, api.OK
			}
			swaps(t, fmt.Sprintf("the change %d fails", k), d, m, e)
			d.Crash(nil)
			is(t, "Start", d.Start(), api.OK)
			loads(t, fmt.Sprintf("the change %d fails", k), d, want)
		}
	}
}

// TestSwapsThatCrashGoOn goes on from what each crash left, with Cleans between, that may fail as well, and files of the log and of tables beside it.
func TestSwapsThatCrashGoOn(t *testing.T) {
	r := rand.New(rand.NewSource(234))
	for range 300 {
		d := made(t, 40000, map[string]string{"c000000": "log", "t000001": "t", "b000001": "b"})
		may := []state{now(d)}
		for range 60 {
			switch r.Intn(8) {
			case 0:
				d.Crash(keeps(r, 60))
			case 1, 2:
				d.Fail(r.Intn(9), keeps(r, 60))
			case 3:
				d.Append("c000000", "more")
				d.Create(fmt.Sprintf("%c%06d", "tb"[r.Intn(2)], r.Intn(30)))
			case 4:
				if m, e := Load(d); e == api.OK {
					Clean(d, m)
				}
			default:
				m := drawn(r)
				switch e := Swap(d, m); {
				case e == api.OK:
					may = []state{there(m)}
				case e != api.ErrDown || d.Up():
					t.Fatalf("Swap of %s: %v", show(m), e)
				default:
					may = append(may, there(m))
				}
			}
			if !d.Up() {
				is(t, "Start", d.Start(), api.OK)
			}
			got := now(d)
			if !slices.Contains(may, got) {
				t.Fatalf("there is %v, not one of %v", got, may)
			}
			may = []state{got}
		}
	}
}

/- Range, Last, Dump: the program's. -/
import Derived.Test.YtiaobmgafhcfnaaMtMem
namespace Go.Proofs.Ytiaobmgafhcfnaa
open Go.RowKit Go.Shelf
set_option linter.unusedVariables false

/-- What a table has, whether it is one or none. -/
structure Has (w : World) (p : Value) (l : List EntS) : Prop where
  laid : ∃ v, EntsIn w v l ∧ ∀ W, Below w.heap.size w W → Calls Try.prog 23 #[p] W fun e w' => e = .returned v ∧ W = w'
  rise : RiseE l
  ok : ∀ x ∈ l, EntOk x
theorem TabAt.has {w : World} {base g : Nat} {F : List Nat} {l : List EntS} (h : TabAt w base g F l) : Has w (mtp g) l := by
  obtain ⟨A, c, c0, c1, -, hrow, -⟩ := h.shape
  obtain ⟨v, h1, h2, h3, h4, h5, h6, h7⟩ := h
  have q : ∀ {p : Addr} {u : Value} {W : World}, w.cell? p = some u → Below w.heap.size w W → W.cell? p = some u := fun {p u W} k hW => (hW.cell (p := p) (World.block_lt_of_cell? w _ k)).trans k
  exact ⟨⟨_, EntRow.in_ hrow, fun W hW => laid_run (q c0 hW) (q c1 hW)⟩, h6, h7⟩
theorem IsNone.has {w : World} {p : Value} (h : IsNone w p) : Has w p [] := ⟨⟨_, Or.inl ⟨rfl, none, 0, rfl⟩, fun W hW => laid_none (h.below hW)⟩, List.Pairwise.nil, fun x hx => by cases hx⟩
set_option maxRecDepth 100000 in
theorem trange_run {w : World} {p : Value} {l : List EntS} (h : Has w p l) (hn : l.length ≤ 500000) (k : Nat) (a b : Int) :
    Calls Try.prog 9 #[p, .int .u64 (k : Nat), .int .i64 a, .int .i64 b] w (EntsOut w (rangeE l k a b)) := by
  obtain ⟨⟨v, hv, hl⟩, hr, hok⟩ := h
  have H1 := Lib.hid (hl w (Below.refl _ _))
  have H2 := Lib.hid (range_any v l k a b w hv hn hok hr)
  clear hl hv hr hok
  generalize rangeE l k a b = R at *
  go_enter Try.func9, Try.ntmps9
  go_wp2_with fail
  refine H1.out.mono ?_
  rintro e w' ⟨rfl, rfl⟩
  go_wp2_with fail
  refine H2.out.mono ?_
  rintro e w' ⟨A, c, rfl, hrow, hb⟩
  have HR := Lib.hid hrow
  clear hrow
  go_wp2
  go_ret
  exact ⟨A, c, rfl, HR.out, hb⟩
set_option maxRecDepth 100000 in
theorem tdump_run {w : World} {p : Value} {l : List EntS} (h : Has w p l) (hn : l.length ≤ 500000) :
    Calls Try.prog 15 #[p] w (EntsOut w l) := by
  obtain ⟨⟨v, hv, hl⟩, hr, hok⟩ := h
  have H1 := Lib.hid (hl w (Below.refl _ _))
  have H2 := Lib.hid (eclone_any v l w hv hn)
  obtain ⟨n, hnn⟩ : ∃ n, n = l.length := ⟨_, rfl⟩
  have HN := Lib.hid hnn
  unfold EntsOut at H2
  rw [← hnn] at H2
  clear hl hv hr hok hn hnn
  go_enter Try.func15, Try.ntmps15
  go_wp2_with fail
  refine H1.out.mono ?_
  rintro e w' ⟨rfl, rfl⟩
  go_wp2_with fail
  refine H2.out.mono ?_
  rintro e w' ⟨A, c, rfl, hrow, hb⟩
  have HR := Lib.hid hrow
  clear hrow
  go_wp2
  go_ret
  exact ⟨A, c, by rw [← HN.out]; rfl, by rw [← HN.out]; exact HR.out, hb⟩
def LastEnd (w : World) (x : EntS) (b : Bool) (e : Ending) (w' : World) : Prop := e = .returned (.tuple #[entB x, .bool b]) ∧ Below w.heap.size w w'
set_option maxRecDepth 100000 in
theorem tlast_run {w : World} {p : Value} {l : List EntS} (h : Has w p l) (hn : l.length ≤ 500000) (k : Nat) (n : Int) :
    Calls Try.prog 13 #[p, .int .u64 (k : Nat), .int .i64 n] w (LastEnd w (lastE l k n) (lastOk l k n)) := by
  obtain ⟨⟨v, hv, hl⟩, hr, hok⟩ := h
  have E0 : EnAt (w.alloc (.cells #[.int .u64 ((0 : Nat) : Int), .int .i64 0, .int .i64 0] 32)) w.heap.size 0 0 0 := Blok.new _ _ _
  have hb := (Below.refl w.heap.size w).alloc (Nat.le_refl _) (.cells #[.int .u64 ((0 : Nat) : Int), .int .i64 0, .int .i64 0] 32)
  obtain ⟨w1, hw1⟩ : ∃ w1, w.alloc (.cells #[.int .u64 ((0 : Nat) : Int), .int .i64 0, .int .i64 0] 32) = w1 := ⟨_, rfl⟩
  rw [hw1] at E0 hb
  have hw1' : w.alloc (.cells #[.int .u64 0, .int .i64 0, .int .i64 0] 32) = w1 := hw1
  clear hw1
  have H1 := Lib.hid (hl w1 hb)
  have H2 := Lib.hid (last_any v l k n w1 (hv.below hb (Nat.le_refl _)) (by omega) hok hr)
  clear hl hv hr hok hn
  generalize lastE l k n = x at *
  generalize lastOk l k n = o at *
  obtain ⟨xh, xv, xp⟩ := x
  go_enter Try.func13, Try.ntmps13
  go_wp2_with fail
  refine H1.out.mono ?_
  rintro e w' ⟨rfl, rfl⟩
  go_wp2_with fail
  refine H2.out.mono ?_
  rintro e w2 ⟨rfl, hb2⟩
  have E2 : EnAt w2 w.heap.size 0 0 0 := Blok.below E0 hb2
  have hb3 := bj hb hb2
  clear E0 hb hb2 H2 H1
  obtain ⟨k0, k1, k2, f0, f1, f2⟩ := E2.facts
  go_wp2
  exact bodyPost_ret (v := .tuple #[entB ⟨xh, xv, xp⟩, .bool o]) (by simp [results, Try.results13, go_sem, k0, k1, k2]) rfl ⟨rfl, low3 hb3 (Nat.le_refl _) _ _ _⟩
end Go.Proofs.Ytiaobmgafhcfnaa

/- Entries that came in, as plain data. -/
import Derived.Test.YtmdoafmgakmjkaaOwn
import Derived.Deep.Slices
import Derived.Deep.Fields
import Derived.ChangeSame
import Derived.WideShapes
import Derived.Carry
import Derived.ProofKit
namespace Go.Proofs.Ytmdoafmgakmjkaa
open Go.ChangeShapes Go.WideShapes Go.ChangeAt Go.RowKit Go.Deep
set_option linter.unusedVariables false

structure EntS where
  h : Nat
  v : Int
  p : Int
def entCells (x : EntS) : List Value := [.int .u64 (x.h : Nat), .int .i64 x.v, .int .i64 x.p]
abbrev entB (x : EntS) : Value := .agg #[.int .u64 (x.h : Nat), .int .i64 x.v, .int .i64 x.p]
def entZero : Value := .agg #[.int .u64 0, .int .i64 0, .int .i64 0]
structure EntOk (x : EntS) : Prop where
  h : x.h < 18446744073709551616
  v0 : -9223372036854775808 ≤ x.v
  v1 : x.v ≤ 9223372036854775807
  p0 : -9223372036854775808 ≤ x.p
  p1 : x.p ≤ 9223372036854775807

theorem ent_hone : ∃ fs, Try.prog.underlying 30 = some (.struct fs) ∧ oneCellFields Try.prog fs = true ∧ fs.size = 3 ∧
    (fs[0]?.map Field.type = some 28 ∧ fs[1]?.map Field.type = some 3 ∧ fs[2]?.map Field.type = some 3) :=
  ⟨_, Try.underlying30, by kernel_rfl, by kernel_rfl, by kernel_rfl, by kernel_rfl, by kernel_rfl⟩
theorem ent_cells : Try.prog.cellsOf 30 = 3 := by kernel_rfl
set_option maxRecDepth 100000 in
theorem ent_in {H : Type} {enc : TypeId × Value → H} {W : World} {fuel : Nat} {cs : List Value} {y : DataW H × List MemPlace}
    (hf : DataW.trod enc Try.prog W 0 (fun _ => true) true fuel 30 cs = some y) : ∃ x, cs = entCells x ∧ EntOk x := by
  obtain ⟨fs, hs, hone, hsz, t0, t1, t2⟩ := ent_hone
  obtain ⟨xs, n, _, rfl, hlen, hxl, hg⟩ := DataW.trod_struct hs hf
  rw [ent_cells] at hlen
  match cs, hlen with
  | [c0, c1, c2], _ =>
    have step : ∀ (i : Nat) (t : TypeId), fs[i]?.map Field.type = some t → ∃ yy, xs[i]? = some yy ∧ DataW.trod enc Try.prog W 0 (fun _ => true) true n t ((([c0, c1, c2] : List Value).drop i).take 1) = some yy := by
      intro i t ht
      cases hfi : fs[i]? with
      | none => rw [hfi] at ht; cases ht
      | some f =>
        rw [hfi] at ht
        obtain rfl : f.type = t := by simpa using ht
        obtain ⟨ho, hk⟩ := hone_of hone i f hfi
        have h1 := hg i f hfi
        rw [ho, hk] at h1
        have hil : i < xs.length := by rw [hxl]; exact (Array.getElem?_eq_some_iff.1 hfi).1
        refine ⟨xs[i], List.getElem?_eq_getElem hil, ?_⟩
        rw [h1, List.getElem?_eq_getElem hil]
    obtain ⟨y0, _, h0⟩ := step 0 _ t0
    obtain ⟨y1, _, h1⟩ := step 1 _ t1
    obtain ⟨y2, _, h2⟩ := step 2 _ t2
    obtain ⟨k, e0, _, wk⟩ := DataW.trod_int Try.underlying28 h0
    obtain ⟨i1, e1, _, w1⟩ := DataW.trod_int Try.underlying3 h1
    obtain ⟨i2, e2, _, w2⟩ := DataW.trod_int Try.underlying3 h2
    obtain ⟨kn, rfl, hk⟩ := u64_nat wk
    have b1 := bounds_i64 w1
    have b2 := bounds_i64 w2
    refine ⟨⟨kn, i1, i2⟩, ?_, hk, b1.1, b1.2, b2.1, b2.2⟩
    have q0 : c0 = .int .u64 (kn : Nat) := by simpa using e0
    have q1 : c1 = .int .i64 i1 := by simpa using e1
    have q2 : c2 = .int .i64 i2 := by simpa using e2
    rw [q0, q1, q2]
    rfl

/-- A slice of them. -/
def EntsIn (w : World) (v : Value) (l : List EntS) : Prop :=
  (l = [] ∧ ∃ a c, v = .slice a 0 c) ∨ ∃ b off cap, v = .slice (some ⟨b, off, none⟩) l.length cap ∧ l.length ≤ cap ∧ cap ≤ maxLen ∧ b < w.heap.size ∧
    ∀ i x, l[i]? = some x → ∀ j u, (entCells x)[j]? = some u → w.cell? ⟨b, off + (i * 3 + j), none⟩ = some u
theorem ents_of {p : Nat → EntS → Prop} : ∀ n, (∀ i, i < n → ∃ x, p i x) → ∃ l : List EntS, l.length = n ∧ ∀ i x, l[i]? = some x → p i x
  | 0, _ => ⟨[], rfl, fun i x h => by simp at h⟩
  | n + 1, h => by
    obtain ⟨l, hl, hp⟩ := ents_of n (fun i hi => h i (by omega))
    obtain ⟨x, hx⟩ := h n (by omega)
    refine ⟨l ++ [x], by rw [List.length_append, hl]; rfl, fun i y hy => ?_⟩
    rcases Nat.lt_or_ge i n with c | c
    · rw [List.getElem?_append_left (by omega)] at hy
      exact hp i y hy
    · rw [List.getElem?_append_right (by omega), hl] at hy
      have : i = n := by
        have := (List.getElem?_eq_some_iff.1 hy).1
        simp at this
        omega
      subst this
      rw [Nat.sub_self] at hy
      obtain rfl : x = y := by simpa using hy
      exact hx
set_option maxRecDepth 100000 in
theorem ents_in {H : Type} {enc : TypeId × Value → H} {W : World} {v : Value} {d : DataW H} {p : List MemPlace} (hval : ∃ a len cap, v = .slice a len cap)
    (hd : DataW.Trod enc Try.prog W 0 (fun _ => true) true 25 v d p) (hlt : ∀ x ∈ p, x.block < W.heap.size) : ∃ l, EntsIn W v l ∧ ∀ x ∈ l, EntOk x := by
  obtain ⟨a0, len, cap, rfl⟩ := hval
  obtain ⟨fuel, hf⟩ := hd
  rcases open_slice Try.underlying25 hf with ⟨hcs, hx⟩ | ⟨a, len', cap', m, n, D, Pl, hcs, _, hl, hm, hmm, hx, hi⟩
  · simp [Value.cells] at hcs
    obtain ⟨rfl, rfl, rfl⟩ := hcs
    exact ⟨[], Or.inl ⟨rfl, _, _, rfl⟩, fun x hx => by cases hx⟩
  · simp [Value.cells] at hcs
    obtain ⟨rfl, rfl, rfl⟩ := hcs
    simp only [Prod.mk.injEq] at hx
    obtain ⟨rfl, rfl⟩ := hx
    simp only [if_true] at hmm
    rw [ent_cells] at hi hlt
    by_cases hl0 : len = 0
    · subst hl0
      exact ⟨[], Or.inl ⟨rfl, _, _, rfl⟩, fun x hx => by cases hx⟩
    · have each : ∀ i, i < len → ∃ x, EntOk x ∧ ∀ j u, (entCells x)[j]? = some u → W.cell? (a.add (i * 3 + j)) = some u := by
        intro i hil
        obtain ⟨cs', hc, ht⟩ := hi i (by omega)
        obtain ⟨_, hcl, hat⟩ := World.cells?_some hc
        obtain ⟨x, rfl, hok⟩ := ent_in ht
        refine ⟨x, hok, fun j u hu => ?_⟩
        have hj : j < 3 := by have := (List.getElem?_eq_some_iff.1 hu).1; rw [hcl] at this; exact this
        rw [← Go.Deep.add_add, hat j hj]
        exact hu
      obtain ⟨b, off, spot⟩ := a
      have hspot : spot = none := by
        obtain ⟨x, _, hx⟩ := each 0 (by omega)
        simpa [Addr.add] using World.cell?_spot (hx 0 _ rfl)
      subst hspot
      obtain ⟨l, hll, hlp⟩ := ents_of len each
      have hbW : b < W.heap.size := hlt (.cell b off) (List.mem_append_left _ (MemPlace.mem_row.2 ⟨0, by omega, by simp⟩))
      refine ⟨l, Or.inr ⟨b, off, cap, by rw [hll], by omega, hm, hbW, fun i x hx j u hu => ?_⟩, fun x hx => ?_⟩
      · have h := (hlp i x hx).2 j u hu
        have ea : (⟨b, off, none⟩ : Addr).add (i * 3 + j) = ⟨b, off + (i * 3 + j), none⟩ := by unfold Addr.add; split <;> simp_all
        rw [ea] at h
        exact h
      · obtain ⟨i, hi⟩ := List.getElem?_of_mem hx
        exact (hlp i x hi).1
theorem EntsIn.below {w w' : World} {v : Value} {l : List EntS} {B : Nat} (h : EntsIn w v l) (hb : Below B w w') (hB : w.heap.size ≤ B) : EntsIn w' v l := by
  rcases h with h | ⟨b, off, cap, hv, hl, hm, hlt, hc⟩
  · exact Or.inl h
  · exact Or.inr ⟨b, off, cap, hv, hl, hm, Nat.lt_of_lt_of_le hlt hb.size, fun i x hx j u hu => (hb.cell (p := ⟨b, off + (i * 3 + j), none⟩) (Nat.lt_of_lt_of_le hlt hB)).trans (hc i x hx j u hu)⟩

set_option maxRecDepth 100000 in
theorem okWide_ent {W : World} {r : Reach} {base : Nat} {v : Value} (h : Value.okWide Try.prog W r base 30 v) : ∃ cs, v = .agg cs := by
  obtain ⟨fs, hs, _⟩ := ent_hone
  obtain ⟨cs, e, _⟩ := okWide_struct hs h
  exact ⟨cs, e⟩
set_option maxRecDepth 100000 in
theorem ent1_in {H : Type} {enc : TypeId × Value → H} {W : World} {v : Value} {d : DataW H} {p : List MemPlace} (hval : ∃ cs, v = .agg cs)
    (hd : DataW.Trod enc Try.prog W 0 (fun _ => true) true 30 v d p) (hlt : ∀ x ∈ p, x.block < W.heap.size) : ∃ x, v = entB x ∧ EntOk x := by
  obtain ⟨cs, rfl⟩ := hval
  obtain ⟨fuel, hf⟩ := hd
  obtain ⟨x, hx, hok⟩ := ent_in hf
  refine ⟨x, ?_, hok⟩
  have e : cs.toList = entCells x := hx
  rw [← Array.toArray_toList (xs := cs), e]
  rfl
theorem ents_laidOut : laidOutB Try.prog = true := by kernel_rfl
/-- What is read of them behind the call. -/
theorem ents_out {H : Type} {enc : TypeId × Value → H} {W W' : World} {v : Value} {d : DataW H} {p : List MemPlace}
    (hd : DataW.Trod enc Try.prog W 0 (fun _ => true) true 25 v d p) (hlt : ∀ x ∈ p, x.block < W.heap.size) (hb : Below W.heap.size W W') :
    DataW.Trod enc Try.prog W' 0 (fun b => decide (b < W.heap.size)) true 25 v d p :=
  Below.trod ents_laidOut (by kernel_rfl) (of_decide_eq_true (by kernel_rfl)) hd hb hlt
theorem ent1_out {H : Type} {enc : TypeId × Value → H} {W W' : World} {v : Value} {d : DataW H} {p : List MemPlace}
    (hd : DataW.Trod enc Try.prog W 0 (fun _ => true) true 30 v d p) (hlt : ∀ x ∈ p, x.block < W.heap.size) (hb : Below W.heap.size W W') :
    DataW.Trod enc Try.prog W' 0 (fun b => decide (b < W.heap.size)) true 30 v d p :=
  Below.trod ents_laidOut (by kernel_rfl) (of_decide_eq_true (by kernel_rfl)) hd hb hlt
end Go.Proofs.Ytmdoafmgakmjkaa

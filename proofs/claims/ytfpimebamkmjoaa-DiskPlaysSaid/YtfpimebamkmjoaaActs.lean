/- Acts that came in, as plain data. -/
import Derived.Test.YtfpimebamkmjoaaIntsIn
import Derived.Deep.Slices
import Derived.Deep.Fields
import Derived.ChangeSame
import Derived.WideShapes
import Derived.Carry
import Derived.ProofKit
namespace Go.Proofs.Ytfpimebamkmjoaa
open Go.ChangeShapes Go.WideShapes Go.ChangeAt Go.RowKit Go.Deep
set_option linter.unusedVariables false

structure ActS where
  kind : Nat
  name : ByteArray
  dest : ByteArray
  text : ByteArray
  place : Int
  n : Int
  keepV : Value
  keep : List Int
def actCells (x : ActS) : List Value := [.int .u8 (x.kind : Nat), .string x.name, .string x.dest, .string x.text, .int .i64 x.place, .int .i64 x.n, x.keepV]
structure ActOk (W : World) (x : ActS) : Prop where
  kind : x.kind < 256
  name : x.name.size ≤ maxLen
  dest : x.dest.size ≤ maxLen
  text : x.text.size ≤ maxLen
  place : (Lit.int .i64 x.place).wf = true
  n : (Lit.int .i64 x.n).wf = true
  keep : IntsIn W x.keepV x.keep

theorem cells_int : Try.prog.cellsOf 3 = 1 := by kernel_rfl
theorem ints_in_arg {H : Type} {enc : TypeId × Value → H} {W : World} {fuel : Nat} {c : Value} {y : DataW H × List MemPlace}
    (hf : DataW.trod enc Try.prog W 0 (fun _ => true) true fuel 32 [c] = some y) (hlt : ∀ x ∈ y.2, x.block < W.heap.size) : ∃ l, IntsIn W c l := by
  rcases open_ints Try.underlying32 Try.underlying3 cells_int hf with ⟨hcs, hx⟩ | ⟨a, len, cap, zs, hcs, _, hl, hm, hz, hx, hcell, hwz⟩
  · obtain rfl : c = .slice none 0 0 := by simpa using hcs
    exact ⟨[], Or.inl ⟨rfl, _, _, rfl⟩⟩
  · obtain rfl : c = .slice (some a) len cap := by simpa using hcs
    subst hx
    simp only [if_true] at hz
    by_cases hl0 : len = 0
    · subst hl0
      exact ⟨[], Or.inl ⟨rfl, _, _, rfl⟩⟩
    · obtain ⟨b, off, spot⟩ := a
      have hspot : spot = none := by simpa [Addr.add] using World.cell?_spot (hcell 0 (by omega))
      subst hspot
      have hbW : b < W.heap.size := hlt (.cell b off) (MemPlace.mem_row.2 ⟨0, by omega, by simp⟩)
      have hlen : (zs.take len).length = len := by rw [List.length_take]; omega
      refine ⟨zs.take len, Or.inr ⟨b, off, cap, by rw [hlen], by omega, hm, hbW, fun i x hi => ?_⟩⟩
      have hi' : i < zs.length := by
        have := (List.getElem?_eq_some_iff.1 hi).1
        rw [hlen] at this
        omega
      have hil : i < len := by
        have := (List.getElem?_eq_some_iff.1 hi).1
        rw [hlen] at this
        exact this
      rw [List.getElem?_take, if_pos hil] at hi
      have e1 : zs.getD i 0 = x := by rw [List.getD_eq_getElem?_getD, hi]; rfl
      have ea : (⟨b, off, none⟩ : Addr).add i = ⟨b, off + i, none⟩ := by unfold Addr.add; split <;> simp_all
      rw [← ea, hcell i hi', e1]

theorem act_hone : ∃ fs, Try.prog.underlying 34 = some (.struct fs) ∧ oneCellFields Try.prog fs = true ∧ fs.size = 7 ∧
    (fs[0]?.map Field.type = some 5 ∧ fs[1]?.map Field.type = some 9 ∧ fs[2]?.map Field.type = some 9 ∧ fs[3]?.map Field.type = some 9 ∧ fs[4]?.map Field.type = some 3 ∧ fs[5]?.map Field.type = some 3 ∧ fs[6]?.map Field.type = some 32) :=
  ⟨_, Try.underlying34, by kernel_rfl, by kernel_rfl, by kernel_rfl, by kernel_rfl, by kernel_rfl, by kernel_rfl, by kernel_rfl, by kernel_rfl, by kernel_rfl⟩
theorem act_cells : Try.prog.cellsOf 34 = 7 := by kernel_rfl
set_option maxRecDepth 100000 in
theorem act_in {H : Type} {enc : TypeId × Value → H} {W : World} {fuel : Nat} {cs : List Value} {y : DataW H × List MemPlace}
    (hf : DataW.trod enc Try.prog W 0 (fun _ => true) true fuel 34 cs = some y) (hlt : ∀ x ∈ y.2, x.block < W.heap.size) : ∃ x, cs = actCells x ∧ ActOk W x := by
  obtain ⟨fs, hs, hone, hsz, t0, t1, t2, t3, t4, t5, t6⟩ := act_hone
  obtain ⟨xs, n, _, rfl, hlen, hxl, hg⟩ := DataW.trod_struct hs hf
  rw [act_cells] at hlen
  match cs, hlen with
  | [c0, c1, c2, c3, c4, c5, c6], _ =>
    have step : ∀ (i : Nat) (t : TypeId), fs[i]?.map Field.type = some t → ∃ yy, xs[i]? = some yy ∧ DataW.trod enc Try.prog W 0 (fun _ => true) true n t ((([c0, c1, c2, c3, c4, c5, c6] : List Value).drop i).take 1) = some yy := by
      intro i t ht
      cases hfi : fs[i]? with
      | none => rw [hfi] at ht; cases ht
      | some f =>
        rw [hfi] at ht
        obtain rfl : f.type = t := by simpa using ht
        obtain ⟨ho, hk⟩ := hone_of hone i f hfi
        have h1 := hg i f hfi
        rw [ho, hk] at h1
        have hil : i < xs.length := by rw [hxl]; exact (Array.getElem?_eq_some_iff.1 hfi).1
        refine ⟨xs[i], List.getElem?_eq_getElem hil, ?_⟩
        rw [h1, List.getElem?_eq_getElem hil]
    obtain ⟨y0, _, h0⟩ := step 0 _ t0
    obtain ⟨y1, _, h1⟩ := step 1 _ t1
    obtain ⟨y2, _, h2⟩ := step 2 _ t2
    obtain ⟨y3, _, h3⟩ := step 3 _ t3
    obtain ⟨y4, _, h4⟩ := step 4 _ t4
    obtain ⟨y5, _, h5⟩ := step 5 _ t5
    obtain ⟨y6, hy6, h6⟩ := step 6 _ t6
    obtain ⟨k, e0, _, wk⟩ := DataW.trod_int Try.underlying5 h0
    obtain ⟨s1, e1, _, w1⟩ := DataW.trod_string Try.underlying9 h1
    obtain ⟨s2, e2, _, w2⟩ := DataW.trod_string Try.underlying9 h2
    obtain ⟨s3, e3, _, w3⟩ := DataW.trod_string Try.underlying9 h3
    obtain ⟨i4, e4, _, w4⟩ := DataW.trod_int Try.underlying3 h4
    obtain ⟨i5, e5, _, w5⟩ := DataW.trod_int Try.underlying3 h5
    obtain ⟨l, hl⟩ := ints_in_arg (c := c6) (by simpa using h6) (fun x hx => hlt x (List.mem_flatMap.2 ⟨y6, List.mem_of_getElem? hy6, hx⟩))
    obtain ⟨kn, rfl, hk⟩ := u8_nat wk
    refine ⟨⟨kn, s1, s2, s3, i4, i5, c6, l⟩, ?_, hk, w1, w2, w3, w4, w5, hl⟩
    have q0 : c0 = .int .u8 (kn : Nat) := by simpa using e0
    have q1 : c1 = .string s1 := by simpa using e1
    have q2 : c2 = .string s2 := by simpa using e2
    have q3 : c3 = .string s3 := by simpa using e3
    have q4 : c4 = .int .i64 i4 := by simpa using e4
    have q5 : c5 = .int .i64 i5 := by simpa using e5
    rw [q0, q1, q2, q3, q4, q5]
    rfl

/-- A slice of acts. -/
def ActsIn (w : World) (v : Value) (l : List ActS) : Prop :=
  (l = [] ∧ ∃ a c, v = .slice a 0 c) ∨ ∃ b off cap, v = .slice (some ⟨b, off, none⟩) l.length cap ∧ l.length ≤ cap ∧ cap ≤ maxLen ∧ b < w.heap.size ∧
    ∀ i x, l[i]? = some x → ∀ j u, (actCells x)[j]? = some u → w.cell? ⟨b, off + (i * 7 + j), none⟩ = some u
theorem list_of {p : Nat → ActS → Prop} : ∀ n, (∀ i, i < n → ∃ x, p i x) → ∃ l : List ActS, l.length = n ∧ ∀ i x, l[i]? = some x → p i x
  | 0, _ => ⟨[], rfl, fun i x h => by simp at h⟩
  | n + 1, h => by
    obtain ⟨l, hl, hp⟩ := list_of n (fun i hi => h i (by omega))
    obtain ⟨x, hx⟩ := h n (by omega)
    refine ⟨l ++ [x], by rw [List.length_append, hl]; rfl, fun i y hy => ?_⟩
    rcases Nat.lt_or_ge i n with c | c
    · rw [List.getElem?_append_left (by omega)] at hy
      exact hp i y hy
    · rw [List.getElem?_append_right (by omega), hl] at hy
      have : i = n := by
        have := (List.getElem?_eq_some_iff.1 hy).1
        simp at this
        omega
      subst this
      rw [Nat.sub_self] at hy
      obtain rfl : x = y := by simpa using hy
      exact hx
set_option maxRecDepth 100000 in
theorem acts_in {H : Type} {enc : TypeId × Value → H} {W : World} {v : Value} {d : DataW H} {p : List MemPlace} (hval : ∃ a len cap, v = .slice a len cap)
    (hd : DataW.Trod enc Try.prog W 0 (fun _ => true) true 22 v d p) (hlt : ∀ x ∈ p, x.block < W.heap.size) : ∃ l, ActsIn W v l ∧ ∀ x ∈ l, ActOk W x := by
  obtain ⟨a0, len, cap, rfl⟩ := hval
  obtain ⟨fuel, hf⟩ := hd
  rcases open_slice Try.underlying22 hf with ⟨hcs, hx⟩ | ⟨a, len', cap', m, n, D, Pl, hcs, _, hl, hm, hmm, hx, hi⟩
  · simp [Value.cells] at hcs
    obtain ⟨rfl, rfl, rfl⟩ := hcs
    exact ⟨[], Or.inl ⟨rfl, _, _, rfl⟩, fun x hx => by cases hx⟩
  · simp [Value.cells] at hcs
    obtain ⟨rfl, rfl, rfl⟩ := hcs
    simp only [Prod.mk.injEq] at hx
    obtain ⟨rfl, rfl⟩ := hx
    simp only [if_true] at hmm
    rw [act_cells] at hi hlt
    by_cases hl0 : len = 0
    · subst hl0
      exact ⟨[], Or.inl ⟨rfl, _, _, rfl⟩, fun x hx => by cases hx⟩
    · have each : ∀ i, i < len → ∃ x, ActOk W x ∧ ∀ j u, (actCells x)[j]? = some u → W.cell? (a.add (i * 7 + j)) = some u := by
        intro i hil
        obtain ⟨cs', hc, ht⟩ := hi i (by omega)
        obtain ⟨_, hcl, hat⟩ := World.cells?_some hc
        obtain ⟨x, rfl, hok⟩ := act_in ht (fun z hz => hlt z (List.mem_append_right _ (List.mem_flatMap.2 ⟨i, List.mem_range.2 (by omega), hz⟩)))
        refine ⟨x, hok, fun j u hu => ?_⟩
        have hj : j < 7 := by have := (List.getElem?_eq_some_iff.1 hu).1; rw [hcl] at this; exact this
        rw [← Go.Deep.add_add, hat j hj]
        exact hu
      obtain ⟨b, off, spot⟩ := a
      have hspot : spot = none := by
        obtain ⟨x, _, hx⟩ := each 0 (by omega)
        simpa [Addr.add] using World.cell?_spot (hx 0 _ rfl)
      subst hspot
      obtain ⟨l, hll, hlp⟩ := list_of len each
      have hbW : b < W.heap.size := hlt (.cell b off) (List.mem_append_left _ (MemPlace.mem_row.2 ⟨0, by omega, by simp⟩))
      refine ⟨l, Or.inr ⟨b, off, cap, by rw [hll], by omega, hm, hbW, fun i x hx j u hu => ?_⟩, fun x hx => ?_⟩
      · have h := (hlp i x hx).2 j u hu
        have ea : (⟨b, off, none⟩ : Addr).add (i * 7 + j) = ⟨b, off + (i * 7 + j), none⟩ := by unfold Addr.add; split <;> simp_all
        rw [ea] at h
        exact h
      · obtain ⟨i, hi⟩ := List.getElem?_of_mem hx
        exact (hlp i x hi).1
/-- An act by itself. -/
def actB (x : ActS) : Value := .agg #[.int .u8 (x.kind : Nat), .string x.name, .string x.dest, .string x.text, .int .i64 x.place, .int .i64 x.n, x.keepV]
def actZero : Value := .agg #[.int .u8 0, .string ByteArray.empty, .string ByteArray.empty, .string ByteArray.empty, .int .i64 0, .int .i64 0, .slice none 0 0]
set_option maxRecDepth 100000 in
theorem okWide_act {W : World} {r : Reach} {base : Nat} {v : Value} (h : Value.okWide Try.prog W r base 34 v) : ∃ cs, v = .agg cs := by
  obtain ⟨fs, hs, _⟩ := act_hone
  obtain ⟨cs, e, _⟩ := okWide_struct hs h
  exact ⟨cs, e⟩
set_option maxRecDepth 100000 in
theorem act1_in {H : Type} {enc : TypeId × Value → H} {W : World} {v : Value} {d : DataW H} {p : List MemPlace} (hval : ∃ cs, v = .agg cs)
    (hd : DataW.Trod enc Try.prog W 0 (fun _ => true) true 34 v d p) (hlt : ∀ x ∈ p, x.block < W.heap.size) : ∃ x, v = actB x ∧ ActOk W x := by
  obtain ⟨cs, rfl⟩ := hval
  obtain ⟨fuel, hf⟩ := hd
  obtain ⟨x, hx, hok⟩ := act_in hf hlt
  refine ⟨x, ?_, hok⟩
  have e : cs.toList = actCells x := hx
  unfold actB
  rw [← Array.toArray_toList (xs := cs), e]
  rfl
theorem acts_laidOut : laidOutB Try.prog = true := by kernel_rfl
/-- What is read of them behind the call. -/
theorem acts_out {H : Type} {enc : TypeId × Value → H} {W W' : World} {v : Value} {d : DataW H} {p : List MemPlace}
    (hd : DataW.Trod enc Try.prog W 0 (fun _ => true) true 22 v d p) (hlt : ∀ x ∈ p, x.block < W.heap.size) (hb : Below W.heap.size W W') :
    DataW.Trod enc Try.prog W' 0 (fun b => decide (b < W.heap.size)) true 22 v d p :=
  Below.trod acts_laidOut (by kernel_rfl) (of_decide_eq_true (by kernel_rfl)) hd hb hlt
theorem act1_out {H : Type} {enc : TypeId × Value → H} {W W' : World} {v : Value} {d : DataW H} {p : List MemPlace}
    (hd : DataW.Trod enc Try.prog W 0 (fun _ => true) true 34 v d p) (hlt : ∀ x ∈ p, x.block < W.heap.size) (hb : Below W.heap.size W W') :
    DataW.Trod enc Try.prog W' 0 (fun b => decide (b < W.heap.size)) true 34 v d p :=
  Below.trod acts_laidOut (by kernel_rfl) (of_decide_eq_true (by kernel_rfl)) hd hb hlt
end Go.Proofs.Ytfpimebamkmjoaa

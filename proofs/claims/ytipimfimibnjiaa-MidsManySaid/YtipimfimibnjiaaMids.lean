/- Midpoints in memory: as they came in; rows of a call's own. -/
import Derived.Test.YtipimfimibnjiaaEntList
import Derived.OpenShut
namespace Go.Proofs.Ytipimfimibnjiaa
open Go.ChangeShapes Go.WideShapes Go.ChangeAt Go.RowKit Go.Deep
set_option linter.unusedVariables false

structure MidS where
  e : EntS
  k : Int
def midCells (x : MidS) : List Value := [.int .u64 (x.e.h : Nat), .int .i64 x.e.v, .int .i64 x.e.p, .int .i64 x.k]
abbrev midB (x : MidS) : Value := .agg #[.int .u64 (x.e.h : Nat), .int .i64 x.e.v, .int .i64 x.e.p, .int .i64 x.k]
structure MidOk (x : MidS) : Prop where
  e : EntOk x.e
  k0 : -9223372036854775808 ≤ x.k
  k1 : x.k ≤ 9223372036854775807
theorem mid_fields : ∃ fs, Try.prog.underlying 41 = some (.struct fs) ∧ fs.size = 2 ∧
    (fs[0]?.map (fun f => (f.type, f.offset, Try.prog.cellsOf f.type)) = some (29, 0, 3) ∧ fs[1]?.map (fun f => (f.type, f.offset, Try.prog.cellsOf f.type)) = some (3, 3, 1)) :=
  ⟨_, Try.underlying41, by kernel_rfl, by kernel_rfl, by kernel_rfl⟩
theorem mid_cells : Try.prog.cellsOf 41 = 4 := by kernel_rfl
set_option maxRecDepth 100000 in
theorem mid_in {H : Type} {enc : TypeId × Value → H} {W : World} {fuel : Nat} {cs : List Value} {y : DataW H × List MemPlace}
    (hf : DataW.trod enc Try.prog W 0 (fun _ => true) true fuel 41 cs = some y) : ∃ x, cs = midCells x ∧ MidOk x := by
  obtain ⟨fs, hs, hsz, t0, t1⟩ := mid_fields
  obtain ⟨xs, n, _, rfl, hlen, hxl, hg⟩ := DataW.trod_struct hs hf
  rw [mid_cells] at hlen
  match cs, hlen with
  | [c0, c1, c2, c3], _ =>
    have step : ∀ (i : Nat) (t : TypeId) (o k : Nat), fs[i]?.map (fun f => (f.type, f.offset, Try.prog.cellsOf f.type)) = some (t, o, k) → ∃ yy, DataW.trod enc Try.prog W 0 (fun _ => true) true n t ((([c0, c1, c2, c3] : List Value).drop o).take k) = some yy := by
      intro i t o k ht
      cases hfi : fs[i]? with
      | none => rw [hfi] at ht; cases ht
      | some f =>
        rw [hfi] at ht
        simp only [Option.map_some, Option.some.injEq, Prod.mk.injEq] at ht
        obtain ⟨rfl, rfl, rfl⟩ := ht
        have h1 := hg i f hfi
        have hil : i < xs.length := by rw [hxl]; exact (Array.getElem?_eq_some_iff.1 hfi).1
        exact ⟨xs[i], by rw [h1, List.getElem?_eq_getElem hil]⟩
    obtain ⟨y0, h0⟩ := step 0 _ _ _ t0
    obtain ⟨y1, h1⟩ := step 1 _ _ _ t1
    obtain ⟨x, e0, ok0⟩ := ent_in h0
    obtain ⟨i2, e1, _, w1⟩ := DataW.trod_int Try.underlying3 h1
    have b2 := bounds_i64 w1
    refine ⟨⟨x, i2⟩, ?_, ok0, b2.1, b2.2⟩
    have q1 : [c0, c1, c2] = entCells x := e0
    have q2 : c3 = .int .i64 i2 := by simpa using e1
    unfold entCells at q1
    simp only [List.cons.injEq, and_true] at q1
    obtain ⟨r1, r2, r3⟩ := q1
    rw [q2, r1, r2, r3]
    rfl
/-- A slice of them. -/
def MidsIn (w : World) (v : Value) (l : List MidS) : Prop :=
  (l = [] ∧ ∃ a c, v = .slice a 0 c) ∨ ∃ b off cap, v = .slice (some ⟨b, off, none⟩) l.length cap ∧ l.length ≤ cap ∧ cap ≤ maxLen ∧ b < w.heap.size ∧
    ∀ i x, l[i]? = some x → ∀ j u, (midCells x)[j]? = some u → w.cell? ⟨b, off + (i * 4 + j), none⟩ = some u
theorem mids_of {p : Nat → MidS → Prop} : ∀ n, (∀ i, i < n → ∃ x, p i x) → ∃ l : List MidS, l.length = n ∧ ∀ i x, l[i]? = some x → p i x
  | 0, _ => ⟨[], rfl, fun i x h => by simp at h⟩
  | n + 1, h => by
    obtain ⟨l, hl, hp⟩ := mids_of n (fun i hi => h i (by omega))
    obtain ⟨x, hx⟩ := h n (by omega)
    refine ⟨l ++ [x], by rw [List.length_append, hl]; rfl, fun i y hy => ?_⟩
    rcases Nat.lt_or_ge i n with c | c
    · rw [List.getElem?_append_left (by omega)] at hy
      exact hp i y hy
    · rw [List.getElem?_append_right (by omega), hl] at hy
      have : i = n := by
        have := (List.getElem?_eq_some_iff.1 hy).1
        simp at this
        omega
      subst this
      rw [Nat.sub_self] at hy
      obtain rfl : x = y := by simpa using hy
      exact hx
set_option maxRecDepth 100000 in
theorem mids_in {H : Type} {enc : TypeId × Value → H} {W : World} {v : Value} {d : DataW H} {p : List MemPlace} (hval : ∃ a len cap, v = .slice a len cap)
    (hd : DataW.Trod enc Try.prog W 0 (fun _ => true) true 25 v d p) (hlt : ∀ x ∈ p, x.block < W.heap.size) : ∃ l, MidsIn W v l ∧ ∀ x ∈ l, MidOk x := by
  obtain ⟨a0, len, cap, rfl⟩ := hval
  obtain ⟨fuel, hf⟩ := hd
  rcases open_slice Try.underlying25 hf with ⟨hcs, hx⟩ | ⟨a, len', cap', m, n, D, Pl, hcs, _, hl, hm, hmm, hx, hi⟩
  · simp [Value.cells] at hcs
    obtain ⟨rfl, rfl, rfl⟩ := hcs
    exact ⟨[], Or.inl ⟨rfl, _, _, rfl⟩, fun x hx => by cases hx⟩
  · simp [Value.cells] at hcs
    obtain ⟨rfl, rfl, rfl⟩ := hcs
    simp only [Prod.mk.injEq] at hx
    obtain ⟨rfl, rfl⟩ := hx
    simp only [if_true] at hmm
    rw [mid_cells] at hi hlt
    by_cases hl0 : len = 0
    · subst hl0
      exact ⟨[], Or.inl ⟨rfl, _, _, rfl⟩, fun x hx => by cases hx⟩
    · have each : ∀ i, i < len → ∃ x, MidOk x ∧ ∀ j u, (midCells x)[j]? = some u → W.cell? (a.add (i * 4 + j)) = some u := by
        intro i hil
        obtain ⟨cs', hc, ht⟩ := hi i (by omega)
        obtain ⟨_, hcl, hat⟩ := World.cells?_some hc
        obtain ⟨x, rfl, hok⟩ := mid_in ht
        refine ⟨x, hok, fun j u hu => ?_⟩
        have hj : j < 4 := by have := (List.getElem?_eq_some_iff.1 hu).1; rw [hcl] at this; exact this
        rw [← Go.Deep.add_add, hat j hj]
        exact hu
      obtain ⟨b, off, spot⟩ := a
      have hspot : spot = none := by
        obtain ⟨x, _, hx⟩ := each 0 (by omega)
        simpa [Addr.add] using World.cell?_spot (hx 0 _ rfl)
      subst hspot
      obtain ⟨l, hll, hlp⟩ := mids_of len each
      have hbW : b < W.heap.size := hlt (.cell b off) (List.mem_append_left _ (MemPlace.mem_row.2 ⟨0, by omega, by simp⟩))
      refine ⟨l, Or.inr ⟨b, off, cap, by rw [hll], by omega, hm, hbW, fun i x hx j u hu => ?_⟩, fun x hx => ?_⟩
      · have h := (hlp i x hx).2 j u hu
        have ea : (⟨b, off, none⟩ : Addr).add (i * 4 + j) = ⟨b, off + (i * 4 + j), none⟩ := by unfold Addr.add; split <;> simp_all
        rw [ea] at h
        exact h
      · obtain ⟨i, hi⟩ := List.getElem?_of_mem hx
        exact (hlp i x hi).1
theorem MidsIn.below {w w' : World} {v : Value} {l : List MidS} {B : Nat} (h : MidsIn w v l) (hb : Below B w w') (hB : w.heap.size ≤ B) : MidsIn w' v l := by
  rcases h with h | ⟨b, off, cap, hv, hl, hm, hlt, hc⟩
  · exact Or.inl h
  · exact Or.inr ⟨b, off, cap, hv, hl, hm, Nat.lt_of_lt_of_le hlt hb.size, fun i x hx j u hu => (hb.cell (p := ⟨b, off + (i * 4 + j), none⟩) (Nat.lt_of_lt_of_le hlt hB)).trans (hc i x hx j u hu)⟩
theorem MidsIn.form {w : World} {v : Value} {l : List MidS} (h : MidsIn w v l) : ∃ A off cap, v = .slice A l.length cap ∧ l.length ≤ maxLen ∧
    ∀ i x, l[i]? = some x → ∃ b, A = some ⟨b, off, none⟩ ∧ b < w.heap.size ∧ w.cell? ⟨b, off + i * 4, none⟩ = some (.int .u64 (x.e.h : Nat)) ∧ w.cell? ⟨b, off + i * 4 + 1, none⟩ = some (.int .i64 x.e.v) ∧ w.cell? ⟨b, off + i * 4 + 2, none⟩ = some (.int .i64 x.e.p) ∧
      w.cell? ⟨b, off + i * 4 + 3, none⟩ = some (.int .i64 x.k) := by
  rcases h with ⟨rfl, a, c, rfl⟩ | ⟨b, off, cap, rfl, h2, h3, h4, h5⟩
  · exact ⟨a, 0, c, rfl, Nat.zero_le _, fun i x h => by simp at h⟩
  · exact ⟨some ⟨b, off, none⟩, off, cap, rfl, by omega, fun i x hx => ⟨b, rfl, h4, h5 i x hx 0 _ rfl, h5 i x hx 1 _ rfl, h5 i x hx 2 _ rfl, h5 i x hx 3 _ rfl⟩⟩
/-- What is read of them behind the call. -/
theorem mids_out {H : Type} {enc : TypeId × Value → H} {W W' : World} {v : Value} {d : DataW H} {p : List MemPlace}
    (hd : DataW.Trod enc Try.prog W 0 (fun _ => true) true 25 v d p) (hlt : ∀ x ∈ p, x.block < W.heap.size) (hb : Below W.heap.size W W') :
    DataW.Trod enc Try.prog W' 0 (fun b => decide (b < W.heap.size)) true 25 v d p :=
  Below.trod ents_laidOut (by kernel_rfl) (of_decide_eq_true (by kernel_rfl)) hd hb hlt

def midFlat (l : List MidS) : List Value := l.flatMap midCells
theorem midFlat_length : ∀ l : List MidS, (midFlat l).length = l.length * 4
  | [] => rfl
  | x :: l => by
    unfold midFlat
    rw [List.flatMap_cons, List.length_append]
    have := midFlat_length l
    unfold midFlat at this
    rw [this, List.length_cons]
    show 4 + _ = _
    omega
theorem midFlat_at : ∀ (l : List MidS) (i : Nat) (x : MidS), l[i]? = some x → ∀ j, j < 4 → (midFlat l)[i * 4 + j]? = (midCells x)[j]?
  | [], i, x, h => by simp at h
  | y :: l, 0, x, h => by
    intro j hj
    obtain rfl : y = x := by simpa using h
    unfold midFlat
    rw [List.flatMap_cons, Nat.zero_mul, Nat.zero_add, List.getElem?_append_left (by exact hj)]
  | y :: l, i + 1, x, h => by
    intro j hj
    have h' : l[i]? = some x := by simpa using h
    have e : (i + 1) * 4 + j = 4 + (i * 4 + j) := by omega
    have := midFlat_at l i x h' j hj
    unfold midFlat at *
    rw [List.flatMap_cons, e, List.getElem?_append_right (by show 4 ≤ _; omega)]
    show (l.flatMap midCells)[4 + (i * 4 + j) - 4]? = _
    rw [Nat.add_sub_cancel_left]
    exact this
theorem midFlat_one {l : List MidS} : ∀ u ∈ midFlat l, u.oneCell' = true := by
  intro u hu
  unfold midFlat at hu
  obtain ⟨f, _, hf⟩ := List.mem_flatMap.1 hu
  simp only [midCells, List.mem_cons, List.not_mem_nil, or_false] at hf
  rcases hf with rfl | rfl | rfl | rfl <;> rfl
theorem midFlat_append (a b : List MidS) : midFlat (a ++ b) = midFlat a ++ midFlat b := by unfold midFlat; rw [List.flatMap_append]
/-- A row of a call's own. -/
abbrev MidRow (w : World) (base : Nat) (v : Value) (l : List MidS) : Prop := w.ownsRow base 41 4 v l.length (midFlat l)
theorem MidRow.in_ {w : World} {base : Nat} {v : Value} {l : List MidS} (h : MidRow w base v l) : MidsIn w v l := by
  have h' := h
  rcases h.2 with ⟨hv, h0⟩ | ⟨g, cap, cur, hv, hg, hh, hn, hm, hsz, ht⟩
  · exact Or.inl ⟨List.length_eq_zero_iff.1 h0, none, 0, hv⟩
  · by_cases hl : l = []
    · subst hl
      exact Or.inl ⟨rfl, _, _, hv⟩
    · refine Or.inr ⟨g, 0, cap, hv, hn, hm, (Array.getElem?_eq_some_iff.1 hh).1, fun i x hx j u hu => ?_⟩
      have hi : i < l.length := (List.getElem?_eq_some_iff.1 hx).1
      have hj : j < 4 := by have := (List.getElem?_eq_some_iff.1 hu).1; exact this
      rw [hv] at h'
      rw [Nat.zero_add]
      exact (h'.cellAt (i * 4 + j) (by omega)).trans ((midFlat_at l i x hx j hj).trans hu)
theorem MidRow.below {w w' : World} {base B : Nat} {v : Value} {l : List MidS} (h : MidRow w base v l) (hb : Below B w w') (hB : w.heap.size ≤ B) : MidRow w' base v l := by
  refine ⟨h.1, ?_⟩
  rcases h.2 with h0 | ⟨g, cap, cur, hv, hg, hh, r⟩
  · exact Or.inl h0
  · obtain ⟨hlt, _⟩ := Array.getElem?_eq_some_iff.1 hh
    exact Or.inr ⟨g, cap, cur, hv, hg, (hb.block g (Nat.lt_of_lt_of_le hlt hB)).trans hh, r⟩
theorem MidRow.alloc {w : World} {base : Nat} {v : Value} {l : List MidS} (h : MidRow w base v l) (o : Obj) : MidRow (w.alloc o) base v l := MidRow.below h ((Below.refl w.heap.size w).alloc (Nat.le_refl _) o) (Nat.le_refl _)
theorem MidRow.block {w : World} {base : Nat} {v : Value} {l : List MidS} (h : MidRow w base v l) : ∀ k, v.ownBlock = some k → base ≤ k := by
  intro k hk
  rcases h.2 with ⟨rfl, _⟩ | ⟨g, cap, cur, rfl, hg, _⟩
  · cases hk
  · cases hk; exact hg
theorem MidRow.nil (w : World) (base : Nat) : MidRow w base (.slice none 0 0) [] := World.ownsRow_nil _ _ _ _
theorem info_mid : (Try.prog.info? 41).map (fun i => (i.zero, i.size, i.bytes)) = some (some (.agg #[.int .u64 0, .int .i64 0, .int .i64 0, .int .i64 0]), 4, 32) := by kernel_rfl
theorem MidsIn.src {w : World} {v : Value} {l : List MidS} (h : MidsIn w v l) : SrcAt w 4 v l.length (midFlat l) := by
  refine ⟨midFlat_length l, ?_⟩
  rcases h with ⟨rfl, a, c, rfl⟩ | ⟨b, off, cap, rfl, h2, h3, h4, h5⟩
  · cases a with
    | none => exact Or.inl ⟨c, rfl, rfl⟩
    | some a => exact Or.inr ⟨a, c, rfl, fun j u hu => by cases hu⟩
  · refine Or.inr ⟨⟨b, off, none⟩, cap, rfl, fun j u hu => ?_⟩
    have hj : j < l.length * 4 := by have := (List.getElem?_eq_some_iff.1 hu).1; rw [midFlat_length] at this; exact this
    have hi : j / 4 < l.length := by omega
    have hx : l[j / 4]? = some l[j / 4] := List.getElem?_eq_getElem hi
    have e : j / 4 * 4 + j % 4 = j := by omega
    have h6 := midFlat_at l (j / 4) _ hx (j % 4) (by omega)
    rw [e, hu] at h6
    have := h5 (j / 4) _ hx (j % 4) u h6.symm
    rw [e] at this
    have ea : (⟨b, off, none⟩ : Addr).add j = ⟨b, off + j, none⟩ := by unfold Addr.add; split <;> simp_all
    rw [ea]
    exact this
theorem mid_one (w : World) (x : MidS) : MidsIn (w.alloc (.cells #[.int .u64 (x.e.h : Nat), .int .i64 x.e.v, .int .i64 x.e.p, .int .i64 x.k] 41)) (.slice (some ⟨w.heap.size, 0, none⟩) 1 1) [x] := by
  refine Or.inr ⟨w.heap.size, 0, 1, rfl, Nat.le_refl _, by unfold maxLen; omega, by simp, fun i y hy j u hu => ?_⟩
  match i, hy with
  | 0, hy =>
    obtain rfl : x = y := by simpa using hy
    match j, hu with
    | 0, hu => rw [← hu]; simp [midCells]
    | 1, hu => rw [← hu]; simp [midCells]
    | 2, hu => rw [← hu]; simp [midCells]
    | 3, hu => rw [← hu]; simp [midCells]
/-- append to a row of a call's own. -/
theorem mids_append {w : World} {base : Nat} {vs vx : Value} {l m : List MidS} (hown : MidRow w base vs l) (hsrc : MidsIn w vx m) (hl : l.length + m.length ≤ 1000000) (hb : base ≤ w.heap.size) (ty : TypeId) :
    ∃ A c w', (Builtin.append_ #[25, 25] ty #[vs, vx]).run Try.prog w = .ok (.slice A (l.length + m.length) c) w' ∧ MidRow w' base (.slice A (l.length + m.length) c) (l ++ m) ∧ w.grownBy w' vs.ownBlock ∧ ((Value.slice A (l.length + m.length) c).ownBlock = vs.ownBlock ∨ (Value.slice A (l.length + m.length) c).ownBlock = some w.heap.size) := by
  obtain ⟨i0, hi, hz0, hz1, hz2⟩ := info_parts info_mid
  obtain ⟨v', w', e1, e2, e3, e4⟩ := run_append_src (P := Try.prog) w base 25 41 i0 _ 4 32 ty Try.underlying25 hi hz0 hz1 hz2 rfl (by decide) vs l.length (midFlat l) hown vx m.length (midFlat m) hsrc.src midFlat_one (by unfold maxLen; omega) (by omega) hb
  obtain ⟨A, c, rfl, -, -, -⟩ := own_form e2
  refine ⟨A, c, w', e1, ?_, e3, e4⟩
  unfold MidRow
  rw [midFlat_append, List.length_append]
  exact e2
end Go.Proofs.Ytipimfimibnjiaa

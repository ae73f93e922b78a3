/- Lists of entries in memory: parts, rows of a call's own, append. -/
import Derived.Test.YtmdoafmgakmjkaaSrc
import Derived.Test.YtmdoafmgakmjkaaEntFront
namespace Go.Proofs.Ytmdoafmgakmjkaa
open Go.RowKit
set_option linter.unusedVariables false
set_option maxRecDepth 100000

def entFlat (l : List EntS) : List Value := l.flatMap entCells
theorem entFlat_length : ∀ l : List EntS, (entFlat l).length = l.length * 3
  | [] => rfl
  | x :: l => by
    unfold entFlat
    rw [List.flatMap_cons, List.length_append]
    have := entFlat_length l
    unfold entFlat at this
    rw [this, List.length_cons]
    show 3 + _ = _
    omega
theorem entFlat_at : ∀ (l : List EntS) (i : Nat) (x : EntS), l[i]? = some x → ∀ j, j < 3 → (entFlat l)[i * 3 + j]? = (entCells x)[j]?
  | [], i, x, h => by simp at h
  | y :: l, 0, x, h => by
    intro j hj
    obtain rfl : y = x := by simpa using h
    unfold entFlat
    rw [List.flatMap_cons, Nat.zero_mul, Nat.zero_add, List.getElem?_append_left (by exact hj)]
  | y :: l, i + 1, x, h => by
    intro j hj
    have h' : l[i]? = some x := by simpa using h
    have e : (i + 1) * 3 + j = 3 + (i * 3 + j) := by omega
    have := entFlat_at l i x h' j hj
    unfold entFlat at *
    rw [List.flatMap_cons, e, List.getElem?_append_right (by show 3 ≤ _; omega)]
    show (l.flatMap entCells)[3 + (i * 3 + j) - 3]? = _
    rw [Nat.add_sub_cancel_left]
    exact this
theorem entFlat_one {l : List EntS} : ∀ u ∈ entFlat l, u.oneCell' = true := by
  intro u hu
  unfold entFlat at hu
  obtain ⟨f, _, hf⟩ := List.mem_flatMap.1 hu
  simp only [entCells, List.mem_cons, List.not_mem_nil, or_false] at hf
  rcases hf with rfl | rfl | rfl <;> rfl
theorem entFlat_append (a b : List EntS) : entFlat (a ++ b) = entFlat a ++ entFlat b := by unfold entFlat; rw [List.flatMap_append]
/-- A row of a call's own. -/
abbrev EntRow (w : World) (base : Nat) (v : Value) (l : List EntS) : Prop := w.ownsRow base 30 3 v l.length (entFlat l)
theorem EntRow.in_ {w : World} {base : Nat} {v : Value} {l : List EntS} (h : EntRow w base v l) : EntsIn w v l := by
  have h' := h
  rcases h.2 with ⟨hv, h0⟩ | ⟨g, cap, cur, hv, hg, hh, hn, hm, hsz, ht⟩
  · exact Or.inl ⟨List.length_eq_zero_iff.1 h0, none, 0, hv⟩
  · by_cases hl : l = []
    · subst hl
      exact Or.inl ⟨rfl, _, _, hv⟩
    · refine Or.inr ⟨g, 0, cap, hv, hn, hm, (Array.getElem?_eq_some_iff.1 hh).1, fun i x hx j u hu => ?_⟩
      have hi : i < l.length := (List.getElem?_eq_some_iff.1 hx).1
      have hj : j < 3 := by have := (List.getElem?_eq_some_iff.1 hu).1; exact this
      rw [hv] at h'
      rw [Nat.zero_add]
      exact (h'.cellAt (i * 3 + j) (by omega)).trans ((entFlat_at l i x hx j hj).trans hu)
theorem EntRow.below {w w' : World} {base B : Nat} {v : Value} {l : List EntS} (h : EntRow w base v l) (hb : Below B w w') (hB : w.heap.size ≤ B) : EntRow w' base v l := by
  refine ⟨h.1, ?_⟩
  rcases h.2 with h0 | ⟨g, cap, cur, hv, hg, hh, r⟩
  · exact Or.inl h0
  · obtain ⟨hlt, _⟩ := Array.getElem?_eq_some_iff.1 hh
    exact Or.inr ⟨g, cap, cur, hv, hg, (hb.block g (Nat.lt_of_lt_of_le hlt hB)).trans hh, r⟩
theorem EntRow.block {w : World} {base : Nat} {v : Value} {l : List EntS} (h : EntRow w base v l) : ∀ k, v.ownBlock = some k → base ≤ k := by
  intro k hk
  rcases h.2 with ⟨rfl, _⟩ | ⟨g, cap, cur, rfl, hg, _⟩
  · cases hk
  · cases hk; exact hg
theorem EntRow.nil (w : World) (base : Nat) : EntRow w base (.slice none 0 0) [] := World.ownsRow_nil _ _ _ _
theorem info_ent : (Try.prog.info? 30).map (fun i => (i.zero, i.size, i.bytes)) = some (some (.agg #[.int .u64 0, .int .i64 0, .int .i64 0]), 3, 24) := by kernel_rfl

/-- A list of entries, as what is appended. -/
theorem EntsIn.src {w : World} {v : Value} {l : List EntS} (h : EntsIn w v l) : SrcAt w 3 v l.length (entFlat l) := by
  refine ⟨entFlat_length l, ?_⟩
  rcases h with ⟨rfl, a, c, rfl⟩ | ⟨b, off, cap, rfl, h2, h3, h4, h5⟩
  · cases a with
    | none => exact Or.inl ⟨c, rfl, rfl⟩
    | some a => exact Or.inr ⟨a, c, rfl, fun j u hu => by cases hu⟩
  · refine Or.inr ⟨⟨b, off, none⟩, cap, rfl, fun j u hu => ?_⟩
    have hj : j < l.length * 3 := by have := (List.getElem?_eq_some_iff.1 hu).1; rw [entFlat_length] at this; exact this
    have hi : j / 3 < l.length := by omega
    have hx : l[j / 3]? = some l[j / 3] := List.getElem?_eq_getElem hi
    have e : j / 3 * 3 + j % 3 = j := by omega
    have h6 := entFlat_at l (j / 3) _ hx (j % 3) (by omega)
    rw [e, hu] at h6
    have := h5 (j / 3) _ hx (j % 3) u h6.symm
    rw [e] at this
    have ea : (⟨b, off, none⟩ : Addr).add j = ⟨b, off + j, none⟩ := by unfold Addr.add; split <;> simp_all
    rw [ea]
    exact this
theorem SrcAt.below {w w' : World} {size n : Nat} {v : Value} {news : List Value} (h : SrcAt w size v n news) (hb : Below w.heap.size w w') : SrcAt w' size v n news := by
  refine ⟨h.1, ?_⟩
  rcases h.2 with h0 | ⟨a, c, e, h3⟩
  · exact Or.inl h0
  · exact Or.inr ⟨a, c, e, fun j u hu => (hb.cell (p := a.add j) (World.block_lt_of_cell? w _ (h3 j u hu))).trans (h3 j u hu)⟩
theorem ent_one (w : World) (x : EntS) : EntsIn (w.alloc (.cells #[.int .u64 (x.h : Nat), .int .i64 x.v, .int .i64 x.p] 30)) (.slice (some ⟨w.heap.size, 0, none⟩) 1 1) [x] := by
  refine Or.inr ⟨w.heap.size, 0, 1, rfl, Nat.le_refl _, by unfold maxLen; omega, by simp, fun i y hy j u hu => ?_⟩
  match i, hy with
  | 0, hy =>
    obtain rfl : x = y := by simpa using hy
    match j, hu with
    | 0, hu => rw [← hu]; simp [entCells]
    | 1, hu => rw [← hu]; simp [entCells]
    | 2, hu => rw [← hu]; simp [entCells]

/-- append to a row of a call's own. -/
theorem ents_append {w : World} {base : Nat} {vs vx : Value} {l m : List EntS} (hown : EntRow w base vs l) (hsrc : EntsIn w vx m) (hl : l.length + m.length ≤ 1000000) (hb : base ≤ w.heap.size) (ty : TypeId) :
    ∃ A c w', (Builtin.append_ #[25, 25] ty #[vs, vx]).run Try.prog w = .ok (.slice A (l.length + m.length) c) w' ∧ EntRow w' base (.slice A (l.length + m.length) c) (l ++ m) ∧ w.grownBy w' vs.ownBlock ∧ ((Value.slice A (l.length + m.length) c).ownBlock = vs.ownBlock ∨ (Value.slice A (l.length + m.length) c).ownBlock = some w.heap.size) := by
  obtain ⟨i0, hi, hz0, hz1, hz2⟩ := info_parts info_ent
  obtain ⟨v', w', e1, e2, e3, e4⟩ := run_append_src (P := Try.prog) w base 25 30 i0 _ 3 24 ty Try.underlying25 hi hz0 hz1 hz2 rfl (by decide) vs l.length (entFlat l) hown vx m.length (entFlat m) hsrc.src entFlat_one (by unfold maxLen; omega) (by omega) hb
  obtain ⟨A, c, rfl, -, -, -⟩ := own_form e2
  refine ⟨A, c, w', e1, ?_, e3, e4⟩
  unfold EntRow
  rw [entFlat_append, List.length_append]
  exact e2
theorem grown_below {B : Nat} {w w' : World} {v : Value} (h : w.grownBy w' v.ownBlock) (hB : B ≤ w.heap.size) (hv : ∀ k, v.ownBlock = some k → B ≤ k) : Below B w w' := ⟨h.os, h.tape, h.output, h.size, fun k hk => h.block k (by omega) (fun e => by have := hv k e.symm; omega)⟩

theorem sliced_nil (a : Option Addr) (c : Nat) : ∃ A c', sliced a 0 0 c 3 = .slice A 0 c' := by unfold sliced; exact ⟨_, _, rfl⟩
section
variable {w : World} {v : Value} {l : List EntS} {k m : Nat}
theorem ents_cut {b off cap : Nat} (h2 : l.length ≤ cap) (h3 : cap ≤ maxLen) (hk : k ≤ m) (hm : m ≤ l.length) :
    ∃ A, sliced (some ⟨b, off, none⟩) k m cap 3 = .slice A (m - k) (cap - k) ∧ ∀ W, b < W.heap.size → (∀ i x, l[i]? = some x → ∀ j u, (entCells x)[j]? = some u → W.cell? ⟨b, off + (i * 3 + j), none⟩ = some u) → EntsIn W (.slice A (m - k) (cap - k)) ((l.drop k).take (m - k)) := by
  have hlen : ((l.drop k).take (m - k)).length = m - k := by rw [List.length_take, List.length_drop]; omega
  by_cases h0 : m - k = 0
  · have hs : ∃ A, sliced (some (⟨b, off, none⟩ : Addr)) k m cap 3 = .slice A (m - k) (cap - k) := by unfold sliced; exact ⟨_, rfl⟩
    obtain ⟨A, e⟩ := hs
    refine ⟨A, e, fun W _ _ => Or.inl ⟨List.length_eq_zero_iff.1 (by rw [hlen]; exact h0), A, _, by rw [h0]⟩⟩
  · have e : sliced (some (⟨b, off, none⟩ : Addr)) k m cap 3 = .slice (some ⟨b, off + k * 3, none⟩) (m - k) (cap - k) := by
      unfold sliced
      rw [if_neg (by omega)]
      simp [Addr.add]
    refine ⟨_, e, fun W hb hc => Or.inr ⟨b, off + k * 3, cap - k, by rw [hlen], by omega, by omega, hb, fun i x hx j u hu => ?_⟩⟩
    have hi : i < m - k := by have := (List.getElem?_eq_some_iff.1 hx).1; rw [hlen] at this; exact this
    rw [List.getElem?_take, if_pos hi, List.getElem?_drop] at hx
    have := hc (k + i) x hx j u hu
    rw [show off + k * 3 + (i * 3 + j) = off + ((k + i) * 3 + j) by omega]
    exact this
/-- A part of a list. -/
theorem ents_part (h : EntsIn w v l) (hk : k ≤ m) (hm : m ≤ l.length) : ∃ A c,
    (∀ W, (Instr.slice 25 v (some (.int .i64 (k : Nat))) (some (.int .i64 (m : Nat))) none).run Try.prog W = .ok (.slice A (m - k) c) W) ∧ ∀ B W, w.heap.size ≤ B → Below B w W → EntsIn W (.slice A (m - k) c) ((l.drop k).take (m - k)) := by
  have hz : ∀ W, (sizeOf (Try.prog.elem 25)).run Try.prog W = .ok 3 W := fun W => by simp [go_sem]
  rcases h with ⟨rfl, a, c, rfl⟩ | ⟨b, off, cap, rfl, h2, h3, h4, h5⟩
  · obtain rfl : m = 0 := by simpa using hm
    obtain rfl : k = 0 := by omega
    obtain ⟨A, c', e⟩ := sliced_nil a c
    refine ⟨A, c', fun W => ?_, fun B W _ _ => Or.inl ⟨by simp, A, c', rfl⟩⟩
    rw [run_slice_lh W _ a 0 c Try.underlying25 .i64 .i64 _ _ (by omega) (by omega) (by omega), hz]
    show Result.ok (sliced _ _ _ _ _) W = _
    rw [Int.toNat_natCast, e]
  · obtain ⟨A, e, hA⟩ := ents_cut (l := l) (b := b) (off := off) h2 h3 hk hm
    refine ⟨A, cap - k, fun W => ?_, fun B W hB hb => hA W (Nat.lt_of_lt_of_le h4 hb.size) fun i x hx j u hu => (hb.cell (p := ⟨b, off + (i * 3 + j), none⟩) (Nat.lt_of_lt_of_le h4 hB)).trans (h5 i x hx j u hu)⟩
    rw [run_slice_lh W _ _ _ cap Try.underlying25 .i64 .i64 _ _ (by omega) (by omega) (by omega), hz]
    show Result.ok (sliced _ _ _ _ _) W = _
    rw [Int.toNat_natCast, Int.toNat_natCast, e]
/-- A list up to a place. -/
theorem ents_to (h : EntsIn w v l) (hm : m ≤ l.length) : ∃ A c,
    (∀ W, (Instr.slice 25 v none (some (.int .i64 (m : Nat))) none).run Try.prog W = .ok (.slice A m c) W) ∧ ∀ B W, w.heap.size ≤ B → Below B w W → EntsIn W (.slice A m c) (l.take m) := by
  have hz : ∀ W, (sizeOf (Try.prog.elem 25)).run Try.prog W = .ok 3 W := fun W => by simp [go_sem]
  rcases h with ⟨rfl, a, c, rfl⟩ | ⟨b, off, cap, rfl, h2, h3, h4, h5⟩
  · obtain rfl : m = 0 := by simpa using hm
    obtain ⟨A, c', e⟩ := sliced_nil a c
    refine ⟨A, c', fun W => ?_, fun B W _ _ => Or.inl ⟨by simp, A, c', rfl⟩⟩
    rw [run_slice_h W _ a 0 c Try.underlying25 .i64 _ (by omega) (by omega), hz]
    show Result.ok (sliced _ _ _ _ _) W = _
    rw [Int.toNat_natCast, e]
  · obtain ⟨A, e, hA⟩ := ents_cut (l := l) (b := b) (off := off) (k := 0) h2 h3 (Nat.zero_le _) hm
    refine ⟨A, cap, fun W => ?_, fun B W hB hb => hA W (Nat.lt_of_lt_of_le h4 hb.size) fun i x hx j u hu => (hb.cell (p := ⟨b, off + (i * 3 + j), none⟩) (Nat.lt_of_lt_of_le h4 hB)).trans (h5 i x hx j u hu)⟩
    rw [run_slice_h W _ _ _ cap Try.underlying25 .i64 _ (by omega) (by omega), hz]
    show Result.ok (sliced _ _ _ _ _) W = _
    rw [Int.toNat_natCast, e]
    rfl
/-- A list from a place on. -/
theorem ents_from (h : EntsIn w v l) (hk : k ≤ l.length) : ∃ A c,
    (∀ W, (Instr.slice 25 v (some (.int .i64 (k : Nat))) none none).run Try.prog W = .ok (.slice A (l.length - k) c) W) ∧ ∀ B W, w.heap.size ≤ B → Below B w W → EntsIn W (.slice A (l.length - k) c) (l.drop k) := by
  have hz : ∀ W, (sizeOf (Try.prog.elem 25)).run Try.prog W = .ok 3 W := fun W => by simp [go_sem]
  rcases h with ⟨rfl, a, c, rfl⟩ | ⟨b, off, cap, rfl, h2, h3, h4, h5⟩
  · obtain rfl : k = 0 := by simpa using hk
    obtain ⟨A, c', e⟩ := sliced_nil a c
    refine ⟨A, c', fun W => ?_, fun B W _ _ => Or.inl ⟨by simp, A, c', rfl⟩⟩
    rw [run_slice_l W _ a 0 c Try.underlying25 .i64 _ (by omega) (by omega), hz]
    show Result.ok (sliced _ _ _ _ _) W = _
    rw [Int.toNat_natCast, e]
    rfl
  · obtain ⟨A, e, hA⟩ := ents_cut (l := l) (b := b) (off := off) h2 h3 hk (Nat.le_refl _)
    have et : (l.drop k).take (l.length - k) = l.drop k := List.take_of_length_le (by rw [List.length_drop]; omega)
    rw [et] at hA
    refine ⟨A, cap - k, fun W => ?_, fun B W hB hb => hA W (Nat.lt_of_lt_of_le h4 hb.size) fun i x hx j u hu => (hb.cell (p := ⟨b, off + (i * 3 + j), none⟩) (Nat.lt_of_lt_of_le h4 hB)).trans (h5 i x hx j u hu)⟩
    rw [run_slice_l W _ _ _ cap Try.underlying25 .i64 _ (by omega) (by omega), hz]
    show Result.ok (sliced _ _ _ _ _) W = _
    rw [Int.toNat_natCast, e]
end
end Go.Proofs.Ytmdoafmgakmjkaa

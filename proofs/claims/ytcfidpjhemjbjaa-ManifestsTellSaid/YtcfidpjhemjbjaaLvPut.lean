/- A number is put behind a level of a call's own; a level is emptied. -/
import Derived.Test.YtcfidpjhemjbjaaLvTrim
namespace Go.Proofs.Ytcfidpjhemjbjaa
open Go.RowKit Go.Shelf
set_option linter.unusedVariables false
set_option maxRecDepth 100000

/-- Five levels of a call's own, whose world was w. -/
def RowsAt (w : World) (g : Nat) (L : LvL) (wr : World) : Prop := ∃ M, LvRow wr w.heap.size (.slice (some ⟨g, 0, none⟩) 5 5) M ∧ LvOwn wr w.heap.size M ∧ LvApart M ∧ lvl M = L ∧ L.length = 5 ∧ Below w.heap.size w wr
theorem FillAt.rows {w wr : World} {g : Nat} {R : LvL} (h : FillAt w g 5 R R.length wr) (hR : R.length ≤ 5) : RowsAt w g (wideL R) wr := by
  obtain ⟨M, h1, h2, h3, h4, h5⟩ := h
  exact ⟨M, h1, h2, h3, h4.trans (wide_fill R), wideL_length hR, h5⟩
theorem RowsAt.at_ {w wr : World} {g k : Nat} {L : LvL} (h : RowsAt w g L wr) (hk : k < 5) : ∃ A c, wr.cell? ⟨g, k, none⟩ = some (.slice A (L.getD k []).length c) ∧ wr.frozen? ⟨g, k, none⟩ = false ∧ IRow wr w.heap.size (.slice A (L.getD k []).length c) (L.getD k []) := by
  obtain ⟨M, h1, h2, h3, rfl, h5, h6⟩ := h
  rw [lvl_length] at h5
  obtain ⟨y, hy⟩ : ∃ y, M[k]? = some y := ⟨_, List.getElem?_eq_getElem (by omega)⟩
  obtain ⟨c1, c2⟩ := LvRow.cell h1 h5.symm hy
  have ho := h2 y (List.mem_of_getElem? hy)
  obtain ⟨A, c, e⟩ := ho.slice
  rw [e] at c1 ho
  rw [lvl_getD hy]
  exact ⟨A, c, c1, c2, ho⟩
/-- It is emptied. -/
theorem RowsAt.drop {w wr : World} {g k : Nat} {L : LvL} (h : RowsAt w g L wr) (hk : k < 5) : RowsAt w g (L.set k []) (wr.setCell ⟨g, k, none⟩ (.slice none 0 0)) := by
  obtain ⟨M, h1, h2, h3, rfl, h5, h6⟩ := h
  rw [lvl_length] at h5
  obtain ⟨g', e, e1, e2, -⟩ := LvRow.some_ h1 (by omega)
  obtain rfl : g = g' := by cases e; rfl
  refine ⟨M.set k lvNil, LvRow.put h1 h5.symm lvNil, fun y hy => ?_, h3.set fun q hq j y hj hy hq2 => (by cases hq), lvl_set _ _ _, by rw [List.length_set, lvl_length, h5], h6.setCell e1 _⟩
  rcases List.mem_or_eq_of_mem_set hy with hy | rfl
  · exact IRow.far_l (h2 y hy) h1
  · exact IRow.nil _ _
/-- A number is put behind a level. -/
theorem RowsAt.put {w wr : World} {g k : Nat} {L : LvL} (h : RowsAt w g L wr) (hk : k < 5) (hl : (L.getD k []).length ≤ 100000) (x : Int) (ty : TypeId) :
    ∃ A0 m c0 A c w2, wr.cell? ⟨g, k, none⟩ = some (.slice A0 m c0) ∧ (Builtin.append_ #[41, 41] ty #[.slice A0 m c0, .slice (some ⟨wr.heap.size, 0, none⟩) 1 1]).run Try.prog (wr.alloc (.cells #[.int .i64 x] 3)) = .ok (.slice A (m + 1) c) w2 ∧
      (∃ u, w2.cell? ⟨g, k, none⟩ = some u) ∧ w2.frozen? ⟨g, k, none⟩ = false ∧ RowsAt w g (putL L k x) (w2.setCell ⟨g, k, none⟩ (.slice A (m + 1) c)) := by
  obtain ⟨M, h1, h2, h3, rfl, h5, h6⟩ := h
  rw [lvl_length] at h5
  obtain ⟨y, hy⟩ : ∃ y, M[k]? = some y := ⟨_, List.getElem?_eq_getElem (by omega)⟩
  obtain ⟨c1, c2⟩ := LvRow.cell h1 h5.symm hy
  have ho := h2 y (List.mem_of_getElem? hy)
  obtain ⟨A0, c0, e⟩ := ho.slice
  rw [lvl_getD hy] at hl
  have hB := (Below.refl wr.heap.size wr).alloc (Nat.le_refl _) (.cells #[.int .i64 x] 3)
  have ho1 := IRow.below ho hB (Nat.le_refl _)
  obtain ⟨A, c, w2, a1, a2, a3, a4⟩ := ints_append (m := [x]) ho1 (int_one wr x) (by simp; omega) (Nat.le_trans h6.size hB.size) ty
  have h1' := LvRow.grown (LvRow.below h1 hB (Nat.le_refl _)) ho1 a3
  have h2' : ∀ z ∈ M, z.v.ownBlock ≠ y.v.ownBlock ∨ z.v.ownBlock = none → IRow w2 w.heap.size z.v z.l := fun z hz hne =>
    own_touch (IRow.below (h2 z hz) hB (Nat.le_refl _)) (F := y.v.ownBlock.toList) (Touch.grown (Touch.refl _ _) a3 (fun q hq => Or.inl (by rw [hq]; simp))) (fun b hb hm => by
      rcases hne with hne | hne
      · exact hne (by rw [hb]; have : y.v.ownBlock = some b := by simpa using hm
                      rw [this])
      · rw [hb] at hne; cases hne)
  obtain ⟨g', e', e1, e2, -⟩ := LvRow.some_ h1 (by omega)
  obtain rfl : g = g' := by cases e'; rfl
  obtain ⟨d1, d2⟩ := LvRow.cell h1' h5.symm hy
  have hz1 : y.l.length + [x].length = y.l.length + 1 := rfl
  rw [hz1] at a1 a2 a4
  rw [e] at c1 a1
  have hbw : Below w.heap.size w w2 := (h6.alloc h6.size _).trans (igrown_below a3 (Nat.le_trans h6.size hB.size) (fun q hq => (IRow.block ho q hq).1))
  refine ⟨A0, y.l.length, c0, A, c, w2, c1, a1, ⟨_, d1⟩, d2, M.set k ⟨.slice A (y.l.length + 1) c, y.l ++ [x]⟩, LvRow.put h1' h5.symm _, fun z hz => ?_, h3.set fun q hq j z hj hz hq2 => ?_, ?_, by rw [putL_length, lvl_length, h5], hbw.setCell e1 _⟩
  · obtain ⟨i, hi⟩ := List.getElem?_of_mem hz
    rw [List.getElem?_set] at hi
    split at hi
    · split at hi
      · obtain rfl : (⟨.slice A (y.l.length + 1) c, y.l ++ [x]⟩ : LvS) = z := by simpa using hi
        exact IRow.far_l a2 h1'
      · cases hi
    · rename_i hne
      refine IRow.far_l (h2' z (List.mem_of_getElem? hi) ?_) h1'
      cases hb : z.v.ownBlock with
      | none => exact Or.inr rfl
      | some b => exact Or.inl (fun e2 => h3 i k z y hi hy (fun e3 => hne e3.symm) b hb e2.symm)
  · have hq' : (Value.slice A (y.l.length + 1) c).ownBlock = some q := hq
    rcases a4 with a4 | a4
    · rw [hq'] at a4
      exact h3 j k z y hz hy hj q hq2 a4.symm
    · rw [hq'] at a4
      have b1 := (IRow.block (h2 z (List.mem_of_getElem? hz)) q hq2).2
      have : q = (wr.alloc (.cells #[.int .i64 x] 3)).heap.size := by injection a4
      have := hB.size
      omega
  · rw [lvl_set]
    unfold putL
    rw [lvl_getD hy]
/-- What a function that trims them tells. -/
theorem RowsAt.row {w wr : World} {g : Nat} {L : LvL} (h : RowsAt w g L wr) : ∃ M, LvRow wr w.heap.size (.slice (some ⟨g, 0, none⟩) 5 5) M ∧ LvOwn wr w.heap.size M ∧ 5 = M.length ∧ lvl M = L ∧ Below w.heap.size w wr := by
  obtain ⟨M, h1, h2, h3, rfl, h5, h6⟩ := h
  exact ⟨M, h1, h2, by rw [← lvl_length, h5], rfl, h6⟩
theorem RowsAt.ltrim {w wr : World} {g : Nat} {L : LvL} (h : RowsAt w g L wr) : Calls Try.prog 23 #[.slice (some ⟨g, 0, none⟩) 5 5] wr fun e w' => ∃ A c, e = .returned (.slice A (trimL L).length c) ∧ LvsNew w' w.heap.size (.slice A (trimL L).length c) (trimL L) ∧ Below w.heap.size w w' := by
  obtain ⟨M, h1, h2, h3, rfl, h5⟩ := h.row
  refine (ltrim_any _ 5 5 _ M wr h1 h2 h3 (by omega)).mono ?_
  rintro e w' ⟨A, t, c, rfl, rfl, h6, rfl⟩
  exact ⟨A, c, rfl, h6, h5⟩
end Go.Proofs.Ytcfidpjhemjbjaa

/- Levels of a call's own that are filled one by one; copied: the program's; wide: the document's. -/
import Derived.Test.YtcfidpjhemjbjaaLvConcat
namespace Go.Proofs.Ytcfidpjhemjbjaa
open Go.RowKit Go.Shelf
set_option linter.unusedVariables false
set_option maxRecDepth 100000

def lvNil : LvS := ⟨.slice none 0 0, []⟩
theorem lv_zeros (n : Nat) : (madeCells #[Value.slice none 0 0] (n * 1)).toList = lvals (List.replicate n lvNil) := by
  unfold lvals
  rw [List.map_replicate]
  apply List.ext_getElem?
  intro i
  rw [Array.getElem?_toList, List.getElem?_replicate]
  by_cases h : i < n
  · rw [if_pos h]
    unfold madeCells
    simp [h, Nat.mod_one, lvNil]
  · rw [if_neg h, Array.getElem?_eq_none (by rw [size_madeCells]; omega)]
theorem lv_make (n : Nat) (hn : n ≤ 1000000) : ∃ Z : Array Value, (∀ w : World, (Instr.makeSlice 23 (.int .i64 (n : Nat)) (.int .i64 (n : Nat))).run Try.prog w = .ok (.slice (some ⟨w.heap.size, 0, none⟩) n n) (w.alloc (.cells Z 41))) ∧
    ∀ w : World, LvRow (w.alloc (.cells Z 41)) w.heap.size (.slice (some ⟨w.heap.size, 0, none⟩) n n) (List.replicate n lvNil) := by
  obtain ⟨i0, hi, hz0, hz1, hz2⟩ := info_parts info_lv
  refine ⟨madeCells #[Value.slice none 0 0] (n * 1), fun w => ?_, fun w => ?_⟩
  · have h := run_makeSlice (P := Try.prog) w 23 41 i0 _ Try.underlying23 hi hz0 .i64 .i64 (n : Int) (n : Int) (by omega) (Int.le_refl _) (by rw [hz1]; omega) (by rw [hz2]; omega) (by omega)
    rw [hz1, Int.toNat_natCast] at h
    exact h
  · have h := World.ownsRow_lit (base := w.heap.size) (e := 41) (size := 1) w (madeCells #[Value.slice none 0 0] (n * 1)) n (Nat.le_refl _) (by unfold maxLen; omega) (size_madeCells _ _)
    unfold LvRow
    rw [List.length_replicate, ← lv_zeros]
    exact h
/-- So many of them, and empty ones. -/
def fillTo (R : LvL) (n k : Nat) : LvL := R.take k ++ List.replicate (n - k) []
theorem fillTo_zero (R : LvL) (n : Nat) : fillTo R n 0 = List.replicate n [] := by unfold fillTo; rw [List.take_zero, List.nil_append, Nat.sub_zero]
theorem fillTo_length {R : LvL} {n k : Nat} (hk : k ≤ R.length) (h : R.length ≤ n) : (fillTo R n k).length = n := by
  unfold fillTo
  rw [List.length_append, List.length_take, List.length_replicate]
  omega
theorem fillTo_succ {R : LvL} {n k : Nat} {x : List Int} (hx : R[k]? = some x) (h : R.length ≤ n) : (fillTo R n k).set k x = fillTo R n (k + 1) := by
  have hk : k < R.length := (List.getElem?_eq_some_iff.1 hx).1
  have e : n - k = (n - (k + 1)) + 1 := by omega
  unfold fillTo
  rw [List.set_append_right _ _ (by rw [List.length_take]; omega), List.length_take, Nat.min_eq_left (by omega), Nat.sub_self, e, List.replicate_succ, List.set_cons_zero, List.take_add_one, hx]
  simp
theorem fillTo_full (R : LvL) : fillTo R R.length R.length = R := by
  unfold fillTo
  rw [List.take_length, Nat.sub_self]
  simp
theorem wide_fill (R : LvL) : fillTo R 5 R.length = wideL R := rfl
/-- Levels that are being filled, of a call whose world was w: so many stand in the block g. -/
def FillAt (w : World) (g n : Nat) (R : LvL) (k : Nat) (wr : World) : Prop := ∃ M, LvRow wr w.heap.size (.slice (some ⟨g, 0, none⟩) n n) M ∧ LvOwn wr w.heap.size M ∧ LvApart M ∧ lvl M = fillTo R n k ∧ Below w.heap.size w wr
theorem FillAt.start {w w1 : World} {Z : Array Value} (n : Nat) (R : LvL) (h : LvRow (w.alloc (.cells Z 41)) w.heap.size (.slice (some ⟨w.heap.size, 0, none⟩) n n) (List.replicate n lvNil)) : FillAt w w.heap.size n R 0 (w.alloc (.cells Z 41)) := by
  refine ⟨_, h, fun x hx => ?_, fun i j x y hx hy hij g hg => ?_, ?_, (Below.refl w.heap.size w).alloc (Nat.le_refl _) _⟩
  · rw [List.eq_of_mem_replicate hx]
    exact IRow.nil _ _
  · have hx' := List.eq_of_mem_replicate (List.mem_of_getElem? hx)
    rw [hx'] at hg
    cases hg
  · rw [fillTo_zero]
    unfold lvl
    rw [List.map_replicate]
    rfl
theorem FillAt.cell {w wr : World} {g n k m : Nat} {R : LvL} (h : FillAt w g n R k wr) (hm : m < n) (hk : k ≤ R.length) (hR : R.length ≤ n) : (∃ u, wr.cell? ⟨g, m, none⟩ = some u) ∧ wr.frozen? ⟨g, m, none⟩ = false ∧ w.heap.size ≤ g ∧ g < wr.heap.size := by
  obtain ⟨M, h1, h2, h3, h4, h5⟩ := h
  have hl : M.length = n := by rw [← lvl_length, h4, fillTo_length hk hR]
  obtain ⟨y, hy⟩ : ∃ y, M[m]? = some y := ⟨_, List.getElem?_eq_getElem (by omega)⟩
  obtain ⟨c1, c2⟩ := LvRow.cell h1 hl.symm hy
  obtain ⟨g', e, e1, e2, -⟩ := LvRow.some_ h1 (by omega)
  obtain rfl : g = g' := by cases e; rfl
  exact ⟨⟨_, c1⟩, c2, e1, e2⟩
/-- The next one is laid. -/
theorem FillAt.next {w wr w2 : World} {g n k m c : Nat} {A : Option Addr} {R : LvL} {x : List Int} (h : FillAt w g n R k wr) (hx : R[k]? = some x) (hR : R.length ≤ n) (hnew : IRow w2 wr.heap.size (.slice A m c) x) (hb2 : Below wr.heap.size wr w2) :
    FillAt w g n R (k + 1) (w2.setCell ⟨g, k, none⟩ (.slice A m c)) := by
  have hk : k < R.length := (List.getElem?_eq_some_iff.1 hx).1
  obtain ⟨-, -, hg1, hg2⟩ := h.cell (m := k) (by omega) (by omega) hR
  obtain ⟨M, h1, h2, h3, h4, h5⟩ := h
  have hl : M.length = n := by rw [← lvl_length, h4, fillTo_length (by omega) hR]
  have r1 := LvRow.below h1 hb2 (Nat.le_refl _)
  have r2 := h2.below hb2 (Nat.le_refl _)
  have r3 := LvRow.put r1 hl.symm (i := k) ⟨.slice A m c, x⟩
  refine ⟨M.set k ⟨.slice A m c, x⟩, r3, fun y hy => ?_, h3.set fun q hq j y hj hy hq2 => ?_, ?_, (h5.trans (hb2.mono h5.size)).setCell hg1 _⟩
  · rcases List.mem_or_eq_of_mem_set hy with hy | rfl
    · exact IRow.far_l (r2 y hy) r1
    · exact IRow.far_l (IRow.down hnew h5.size) r1
  · have b1 := (IRow.block hnew q hq).1
    have b2 := (IRow.block (h2 y (List.mem_of_getElem? hy)) q hq2).2
    omega
  · rw [lvl_set, h4]
    exact fillTo_succ hx hR
/-- What a filled one is, for what follows. -/
def WideEnd (w : World) (R : LvL) (e : Ending) (w' : World) : Prop := ∃ g, e = .returned (.slice (some ⟨g, 0, none⟩) 5 5) ∧ FillAt w g 5 R R.length w'
end Go.Proofs.Ytcfidpjhemjbjaa

/- Replace's step: one level is emptied, and a number put behind another one. No function of the program. -/
import Derived.Test.YtejdeidbgbacgaaLvTold
namespace Go.Proofs.Ytejdeidbgbacgaa
open Go.RowKit Go.Shelf
set_option linter.unusedVariables false
set_option maxRecDepth 100000

theorem getD_small {R : LvL} (h : R.flatten.length ≤ 100000) (k : Nat) : (R.getD k []).length ≤ 100000 := by
  rw [List.getD_eq_getElem?_getD]
  cases hx : R[k]? with
  | none => exact Nat.zero_le _
  | some x => have := flat_one hx; exact Nat.le_trans this h
theorem set_getD_small {R : LvL} (h : ∀ k, (R.getD k []).length ≤ 100000) (i k : Nat) : ((R.set i []).getD k []).length ≤ 100000 := by
  rw [List.getD_eq_getElem?_getD, List.getElem?_set]
  split
  · split
    · exact Nat.zero_le _
    · exact Nat.zero_le _
  · have := h k
    rwa [List.getD_eq_getElem?_getD] at this
/-- One level is emptied, and a number put behind another one. -/
theorem repl_step {R : LvL} {n : Int} {W wr : World} {g : Nat} (hgd : ∀ i k, (((wideL R).set i []).getD k []).length ≤ 100000) (h : RowsAt W g (wideL R) wr) (i t : Nat) (hi : i < 5) (ht : t < 5) :
    ∃ u0 A0 m0 c0 A4 c4 w5 u, wr.cell? ⟨g, i, none⟩ = some u0 ∧ wr.frozen? ⟨g, i, none⟩ = false ∧ (wr.setCell ⟨g, i, none⟩ (.slice none 0 0)).cell? ⟨g, t, none⟩ = some (.slice A0 m0 c0) ∧
      (Builtin.append_ #[25, 25] 25 #[.slice A0 m0 c0, .slice (some ⟨wr.heap.size, 0, none⟩) 1 1]).run Try.prog ((wr.setCell ⟨g, i, none⟩ (.slice none 0 0)).alloc (.cells #[.int .i64 n] 3)) = .ok (.slice A4 (m0 + 1) c4) w5 ∧
      w5.cell? ⟨g, t, none⟩ = some u ∧ w5.frozen? ⟨g, t, none⟩ = false ∧ RowsAt W g (putL ((wideL R).set i []) t n) (w5.setCell ⟨g, t, none⟩ (.slice A4 (m0 + 1) c4)) := by
  obtain ⟨B0, d0, b1, b2, -⟩ := h.at_ (k := i) hi
  obtain ⟨A0, m0, c0, A4, c4, w5, a1, a2, ⟨u, a3⟩, a4, a5⟩ := (h.drop (k := i) hi).put (k := t) ht (hgd _ _) n 25
  have hz : (wr.setCell ⟨g, i, none⟩ (.slice none 0 0)).heap.size = wr.heap.size := by simp [World.setCell]
  rw [hz] at a2
  exact ⟨_, A0, m0, c0, A4, c4, w5, u, b1, b2, a1, a2, a3, a4, a5⟩
end Go.Proofs.Ytejdeidbgbacgaa

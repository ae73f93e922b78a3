/- What Pick, Add and Replace tell, case by case. -/
import Derived.Test.YtcfidpjhemjbjaaLvPut
namespace Go.Proofs.Ytcfidpjhemjbjaa
open Go.RowKit Go.Shelf
set_option linter.unusedVariables false
set_option maxRecDepth 100000

def PickEnd (w : World) (R : LvL) (k : Int) (e : Ending) (w' : World) : Prop := ∃ A c, e = .returned (.tuple #[.slice A (pickL R k).length c, .int .i64 (pickE R k)]) ∧ IRow w' w.heap.size (.slice A (pickL R k).length c) (pickL R k) ∧ Below w.heap.size w w'
def LvsEnd (w : World) (T : LvL) (E : Int) (e : Ending) (w' : World) : Prop := ∃ A c, e = .returned (.tuple #[.slice A T.length c, .int .i64 E]) ∧ LvsNew w' w.heap.size (.slice A T.length c) T ∧ Below w.heap.size w w'
theorem pick_two {R : LvL} {k : Int} (h : validL R = false ∨ k < 0 ∨ 4 < k) : pickE R k = 2 ∧ pickL R k = [] := by
  have e : pickE R k = 2 := by unfold pickE; rw [if_pos h]
  exact ⟨e, by unfold pickL; rw [e]; rfl⟩
theorem pick_none {R : LvL} {k : Int} (h1 : validL R = true) (h2 : 0 ≤ k) (h3 : k ≤ 4) (h : (wideL R).getD k.toNat [] = []) : pickE R k = 4 ∧ pickL R k = [] := by
  have e : pickE R k = 4 := by
    unfold pickE
    rw [if_neg (by rintro (e | e | e); rw [h1] at e; cases e; omega; omega), if_pos h]
  exact ⟨e, by unfold pickL; rw [e]; rfl⟩
theorem pick_some {R : LvL} {k : Int} {x : List Int} (h1 : validL R = true) (h2 : 0 ≤ k) (h3 : k ≤ 4) (h : (wideL R).getD k.toNat [] = x) (h0 : x ≠ []) : pickE R k = 0 ∧ pickL R k = x := by
  have e : pickE R k = 0 := by
    unfold pickE
    rw [if_neg (by rintro (e | e | e); rw [h1] at e; cases e; omega; omega), if_neg (by rw [h]; exact h0)]
  exact ⟨e, by unfold pickL; rw [if_pos e, h]⟩
theorem pick_told_none {w : World} {R : LvL} {k E : Int} (h : pickE R k = E ∧ pickL R k = []) : Hid (∀ w', Below w.heap.size w w' → PickEnd w R k (.returned (.tuple #[.slice none 0 0, .int .i64 E])) w') := Lib.hid fun w' hb => by
  unfold PickEnd
  rw [h.1, h.2]
  exact ⟨none, 0, rfl, IRow.nil _ _, hb⟩
theorem pick_told_some {w : World} {R : LvL} {k : Int} {x : List Int} (h : pickE R k = 0 ∧ pickL R k = x) : Hid (∀ A c w', IRow w' w.heap.size (.slice A x.length c) x → Below w.heap.size w w' → PickEnd w R k (.returned (.tuple #[.slice A x.length c, .int .i64 0])) w') := Lib.hid fun A c w' hr hb => by
  unfold PickEnd
  rw [h.1, h.2]
  exact ⟨A, c, rfl, hr, hb⟩
theorem lvs_told_none {w : World} {T : LvL} {E E' : Int} (h1 : E = E') (h2 : T = []) : Hid (∀ w', Below w.heap.size w w' → LvsEnd w T E (.returned (.tuple #[.slice none 0 0, .int .i64 E'])) w') := Lib.hid fun w' hb => by
  subst h1 h2
  exact ⟨none, 0, rfl, LvsNew.nil _ _, hb⟩
theorem add_two {R : LvL} {n : Int} (h : validL R = false ∨ n < 0 ∨ n ∈ R.flatten) : addE R n = 2 ∧ addL R n = [] := by
  have e : addE R n = 2 := by unfold addE; rw [if_pos h]
  exact ⟨e, by unfold addL; rw [e]; rfl⟩
theorem add_full {R : LvL} {n : Int} (h1 : validL R = true) (h2 : 0 ≤ n) (h3 : n ∉ R.flatten) (h : R.flatten.length = 40) : addE R n = 60 ∧ addL R n = [] := by
  have e : addE R n = 60 := by
    unfold addE
    rw [if_neg (by rintro (e | e | e); rw [h1] at e; cases e; omega; exact h3 e), if_pos h]
  exact ⟨e, by unfold addL; rw [e]; rfl⟩
theorem add_some {R : LvL} {n : Int} (h1 : validL R = true) (h2 : 0 ≤ n) (h3 : n ∉ R.flatten) (h : R.flatten.length ≠ 40) : addE R n = 0 ∧ addL R n = trimL (putL (wideL R) 0 n) := by
  have e : addE R n = 0 := by
    unfold addE
    rw [if_neg (by rintro (e | e | e); rw [h1] at e; cases e; omega; exact h3 e), if_neg h]
  exact ⟨e, by unfold addL; rw [if_pos e]⟩
theorem repl_pick {R : LvL} {k n : Int} (h : pickE R k ≠ 0) : replE R k n = pickE R k ∧ replL R k n = [] := by
  have e : replE R k n = pickE R k := by unfold replE; rw [if_pos h]
  exact ⟨e, by unfold replL; rw [if_neg (by rw [e]; exact h)]⟩
theorem repl_two {R : LvL} {k n : Int} (h : pickE R k = 0) (h2 : n < 0 ∨ n ∈ R.flatten) : replE R k n = 2 ∧ replL R k n = [] := by
  have e : replE R k n = 2 := by unfold replE; rw [if_neg (by rw [h]; exact fun h => h rfl), if_pos h2]
  exact ⟨e, by unfold replL; rw [e]; rfl⟩
theorem repl_some {R : LvL} {k n : Int} (h : pickE R k = 0) (h2 : 0 ≤ n) (h3 : n ∉ R.flatten) : replE R k n = 0 ∧ replL R k n = trimL (putL ((wideL R).set k.toNat []) (toL k.toNat) n) := by
  have e : replE R k n = 0 := by unfold replE; rw [if_neg (by rw [h]; exact fun h => h rfl), if_neg (by rintro (e | e); omega; exact h3 e)]
  exact ⟨e, by unfold replL; rw [if_pos e]⟩
theorem valid_small {R : LvL} (h : validL R = true) : R.length ≤ 5 ∧ R.flatten.length ≤ 40 := ⟨(of_decide_eq_true h).1, (of_decide_eq_true h).2.1⟩
end Go.Proofs.Ytcfidpjhemjbjaa

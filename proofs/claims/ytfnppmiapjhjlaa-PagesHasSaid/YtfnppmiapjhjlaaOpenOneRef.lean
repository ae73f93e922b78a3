/- The document's own Open. -/
import Derived.Test.YtfnppmiapjhjlaaSealOneRef
import Derived.Test.YtfnppmiapjhjlaaOpenOne
namespace Go.Proofs.Ytfnppmiapjhjlaa
open Go.RowKit
set_option linter.unusedVariables false

theorem cut_join (s : ByteArray) (n : Nat) (h : n ≤ s.size) : s.extract 0 n ++ s.extract n s.size = s := by
  have hl : s.data.toList.length = s.size := Array.length_toList
  apply ByteArray.ext
  apply Array.toList_inj.1
  simp
theorem app_inj {a b c : ByteArray} (h : a ++ b = a ++ c) : b = c := by
  have h2 := congrArg (fun s : ByteArray => s.data.toList) h
  simp only [ByteArray.data_append, Array.toList_append, List.append_cancel_left_eq] at h2
  exact ByteArray.ext (Array.toList_inj.1 h2)
theorem seal_iff (s : ByteArray) (h4 : 4 ≤ s.size) : sealS (s.extract 0 (s.size - 4)) = s ↔ s.extract (s.size - 4) s.size = bs (tailS (s.extract 0 (s.size - 4)).data.toList) := by
  have h := cut_join s (s.size - 4) (by omega)
  unfold sealS
  generalize bs (tailS (s.extract 0 (s.size - 4)).data.toList) = t
  constructor
  · intro e
    exact (app_inj (e.trans h.symm)).symm
  · intro e
    rw [← e]
    exact h

set_option maxHeartbeats 400000 in
theorem openr_at (s : ByteArray) (w : World) (hs : s.size ≤ maxLen) (h4 : 4 ≤ s.size) (T : ByteArray)
    (ht : ∀ W, Calls Try.prog 28 #[.string (s.extract 0 (s.size - 4))] W fun e w' => e = .returned (.string T) ∧ Below W.heap.size W w') :
    Calls Try.prog 35 #[.string s] w fun e w' => e = .returned (.tuple #[.string (if T = s then s.extract 0 (s.size - 4) else ByteArray.empty), .bool (decide (T = s))]) ∧ Below w.heap.size w w' := by
  have Ht := Lib.hid ht
  clear ht
  unfold maxLen at hs
  have d1 : decide ((s.size : Int) < 4) = false := by simp; omega
  by_cases hT : T = s
  · have he := list_eq hT
    rw [if_pos hT, decide_eq_true hT]
    have HT := Lib.hid hT
    clear hT
    go_enter Try.func35, Try.ntmps35
    go_wp2_with fail
    refine (Ht.out _).mono ?_
    rintro e w' ⟨rfl, hb⟩
    go_wp2
    go_ret2
    exact ⟨rfl, ‹Below _ _ _›⟩
  · have he := list_ne hT
    rw [if_neg hT, decide_eq_false hT]
    have HT := Lib.hid hT
    clear hT
    go_enter Try.func35, Try.ntmps35
    go_wp2_with fail
    refine (Ht.out _).mono ?_
    rintro e w' ⟨rfl, hb⟩
    go_wp2
    go_ret2
    exact ⟨rfl, ‹Below _ _ _›⟩

theorem open_ref (s : ByteArray) (w : World) (hs : s.size ≤ maxLen) :
    Calls Try.prog 35 #[.string s] w fun e w' => e = .returned (.tuple #[.string (opA s), .bool (opOk s)]) ∧ Below w.heap.size w w' := by
  by_cases h4 : 4 ≤ s.size
  · have h := openr_at s w hs h4 (sealS (s.extract 0 (s.size - 4))) (fun W => seal_ref _ W (by unfold maxLen at *; rw [ByteArray.size_extract]; omega))
    have e1 : opOk s = decide (sealS (s.extract 0 (s.size - 4)) = s) := by
      unfold opOk
      rw [Bool.eq_iff_iff, decide_eq_true_iff, decide_eq_true_iff, seal_iff s h4]
      simp [h4]
    have e2 : opA s = if sealS (s.extract 0 (s.size - 4)) = s then s.extract 0 (s.size - 4) else ByteArray.empty := by
      unfold opA
      rw [e1]
      simp
    rw [e1, e2]
    exact h
  · have e1 : opOk s = false := by simp [opOk, h4]
    have e2 : opA s = ByteArray.empty := by simp [opA, e1]
    rw [e1, e2]
    clear e1 e2
    unfold maxLen at hs
    have d1 : decide ((s.size : Int) < 4) = true := by simp; omega
    go_enter Try.func35, Try.ntmps35
    go_wp2
    go_ret2
    exact ⟨rfl, Below.refl _ _⟩
end Go.Proofs.Ytfnppmiapjhjlaa

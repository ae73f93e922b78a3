/- sums.Open: whether a text is sealed, and the text that is (Seal stands apart, in SealOne). -/
import Derived.Test.YtifhiiokgpbhmaaSealOne
namespace Go.Proofs.Ytifhiiokgpbhmaa
open Go.RowKit
set_option linter.unusedVariables false

/-- Is a text sealed (P2.2)? -/
def opOk (s : ByteArray) : Bool := decide (4 ≤ s.size ∧ s.extract (s.size - 4) s.size = bs (tailS (s.extract 0 (s.size - 4)).data.toList))
/-- The text that is sealed (P2.2). -/
def opA (s : ByteArray) : ByteArray := if opOk s = true then s.extract 0 (s.size - 4) else ByteArray.empty

theorem list_eq {a b : ByteArray} (h : a = b) : (a.toList == b.toList) = true := by rw [h, beq_iff_eq]
theorem list_ne {a b : ByteArray} (h : ¬ a = b) : (a.toList == b.toList) = false := by
  rw [beq_eq_false_iff_ne]
  intro x
  rw [Lib.toList_data, Lib.toList_data] at x
  exact h (ByteArray.ext (Array.toList_inj.1 x))

set_option maxHeartbeats 400000 in
theorem open_at (s : ByteArray) (w : World) (hs : s.size ≤ maxLen) (h4 : 4 ≤ s.size) (T : ByteArray)
    (ht : ∀ W, Below w.heap.size w W → Calls Try.prog 33 #[.string (s.extract 0 (s.size - 4))] W fun e w' => e = .returned (.string T) ∧ Below w.heap.size w w') :
    Calls Try.prog 27 #[.string s] w fun e w' => e = .returned (.tuple #[.string (if s.extract (s.size - 4) s.size = T then s.extract 0 (s.size - 4) else ByteArray.empty), .bool (decide (s.extract (s.size - 4) s.size = T))]) ∧ Below w.heap.size w w' := by
  have Ht := Lib.hid ht
  clear ht
  unfold maxLen at hs
  have d1 : decide ((s.size : Int) - 4 < 0) = false := by simp; omega
  have x1 : (0 : Int) ≤ (s.size : Int) - 4 := by omega
  have x4 : (4 : Int) ≤ (s.size : Int) := by omega
  have x2 : (s.size : Int) - 4 ≤ s.size := by omega
  have x3 : ((s.size : Int) - 4).toNat = s.size - 4 := by omega
  by_cases hT : s.extract (s.size - 4) s.size = T
  · have he := list_eq hT.symm
    rw [if_pos hT, decide_eq_true hT]
    have HT := Lib.hid hT
    clear hT
    go_enter Try.func27, Try.ntmps27
    go_wp2_with fail
    go_region_held3 (fun w' => Below w.heap.size w w') (first | assumption | exact (Below.refl _ _).drew) ((go_at_call 33; refine (Ht.out _ (by assumption)).mono ?_; rintro e w' ⟨rfl, hb⟩))
    go_wp2
    go_ret2
    exact ⟨rfl, ‹Below _ _ _›⟩
  · have he := list_ne (fun h : T = s.extract (s.size - 4) s.size => hT h.symm)
    rw [if_neg hT, decide_eq_false hT]
    have HT := Lib.hid hT
    clear hT
    go_enter Try.func27, Try.ntmps27
    go_wp2_with fail
    go_region_held3 (fun w' => Below w.heap.size w w') (first | assumption | exact (Below.refl _ _).drew) ((go_at_call 33; refine (Ht.out _ (by assumption)).mono ?_; rintro e w' ⟨rfl, hb⟩))
    go_wp2
    go_ret2
    exact ⟨rfl, ‹Below _ _ _›⟩

theorem open_any (s : ByteArray) (w : World) (hs : s.size ≤ maxLen) :
    Calls Try.prog 27 #[.string s] w fun e w' => e = .returned (.tuple #[.string (opA s), .bool (opOk s)]) ∧ Below w.heap.size w w' := by
  by_cases h4 : 4 ≤ s.size
  · have h := open_at s w hs h4 (bs (tailS (s.extract 0 (s.size - 4)).data.toList)) (fun W hW => (tail_any _ W (by unfold maxLen at *; rw [ByteArray.size_extract]; omega)).mono fun e w' ⟨he, hb⟩ => ⟨he, hW.trans (hb.mono hW.size)⟩)
    have e1 : opOk s = decide (s.extract (s.size - 4) s.size = bs (tailS (s.extract 0 (s.size - 4)).data.toList)) := by simp [opOk, h4]
    have e2 : opA s = if s.extract (s.size - 4) s.size = bs (tailS (s.extract 0 (s.size - 4)).data.toList) then s.extract 0 (s.size - 4) else ByteArray.empty := by
      unfold opA
      rw [e1]
      simp
    rw [e1, e2]
    exact h
  · have e1 : opOk s = false := by simp [opOk, h4]
    have e2 : opA s = ByteArray.empty := by simp [opA, e1]
    rw [e1, e2]
    clear e1 e2
    unfold maxLen at hs
    have d1 : decide ((s.size : Int) - 4 < 0) = true := by simp; omega
    go_enter Try.func27, Try.ntmps27
    go_wp2_with fail
    go_quiet (fail)
    go_wp2
    go_ret2
    exact ⟨rfl, below_drewN (Below.refl _ _) _⟩
end Go.Proofs.Ytifhiiokgpbhmaa

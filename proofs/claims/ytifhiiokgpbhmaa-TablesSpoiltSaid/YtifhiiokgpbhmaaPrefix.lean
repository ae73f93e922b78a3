/- strings.HasPrefix. -/
import Derived.Test.YtifhiiokgpbhmaaTxts
import Derived.Lib.Hide
namespace Go.Proofs.Ytifhiiokgpbhmaa
open Go.RowKit
set_option linter.unusedVariables false

def preS (s p : ByteArray) : Bool := decide (p.size ≤ s.size ∧ s.extract 0 p.size = p)
theorem lpre_any (s p : ByteArray) (w : World) (hs : s.size ≤ maxLen) (hp : p.size ≤ maxLen) :
    Calls Try.prog 43 #[.string s, .string p] w fun e w' => e = .returned (.bool (preS s p)) ∧ w = w' := by
  unfold maxLen at hs hp
  unfold preS
  by_cases h : p.size ≤ s.size
  · have l1 : (p.size : Int) ≤ (s.size : Int) := by omega
    by_cases hq : s.extract 0 p.size = p
    · rw [decide_eq_true ⟨h, hq⟩]
      obtain ⟨q1, q2, q3⟩ := ctxt_eq hq
      clear hq
      go_enter Try.func43, Try.ntmps43
      go_wp2
      go_ret
      exact ⟨rfl, rfl⟩
    · rw [decide_eq_false (fun h => hq h.2)]
      obtain ⟨q1, q2, q3⟩ := ctxt_ne hq
      clear hq
      go_enter Try.func43, Try.ntmps43
      go_wp2
      go_ret
      exact ⟨rfl, rfl⟩
  · rw [decide_eq_false (fun q => h q.1)]
    have l1 : decide ((p.size : Int) ≤ (s.size : Int)) = false := decide_eq_false (by omega)
    go_enter Try.func43, Try.ntmps43
    go_wp2
    go_ret
    exact ⟨rfl, rfl⟩
theorem pre_any (s p : ByteArray) (w : World) (hs : s.size ≤ maxLen) (hp : p.size ≤ maxLen) :
    Calls Try.prog 36 #[.string s, .string p] w fun e w' => e = .returned (.bool (preS s p)) ∧ w = w' := by
  have H := Lib.hid (lpre_any s p w hs hp)
  go_enter Try.func36, Try.ntmps36
  go_wp2_with fail
  refine (H.out).mono ?_
  rintro e w1 ⟨rfl, rfl⟩
  go_wp2
  go_ret
  exact ⟨rfl, rfl⟩
end Go.Proofs.Ytifhiiokgpbhmaa
